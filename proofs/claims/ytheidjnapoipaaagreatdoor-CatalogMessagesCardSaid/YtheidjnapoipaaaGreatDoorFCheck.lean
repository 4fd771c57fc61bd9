/- The contracts of a rule's Check, the program's and the document's. -/
import Derived.Test.YtheidjnapoipaaaGreatDoorFSmall
namespace Go.Proofs.YtheidjnapoipaaaGreatDoor
open Go.RowKit
set_option linter.unusedVariables false

theorem beq_no {k c : Int} (h : k ≠ c) : (k == c) = false := by simp; exact h

theorem FR.check_11 {r : FR} (h : r.known = false) : r.check = 11 := by unfold FR.check; rw [if_pos h]
theorem FR.check_7 {r : FR} (h : r.known = true) (ho : r.off = true) : r.check = 7 := by unfold FR.check; rw [if_neg (by rw [h]; decide), if_pos ho]
theorem FR.check_16 {r : FR} (h : r.known = true) (ho : r.off = false) (hk : r.kind = 4) (ht : r.texts = []) : r.check = 16 := by unfold FR.check; rw [if_neg (by rw [h]; decide), if_neg (by rw [ho]; decide), if_pos ⟨hk, ht⟩]
theorem FR.check_0 {r : FR} (h : r.known = true) (ho : r.off = false) (hk : ¬ (r.kind = 4 ∧ r.texts = [])) : r.check = 0 := by unfold FR.check; rw [if_neg (by rw [h]; decide), if_neg (by rw [ho]; decide), if_neg hk]

set_option maxRecDepth 20000 in
set_option maxHeartbeats 1000000 in
theorem Check_any (r : FR) (a0 : Option Addr) (n cap : Nat) (hn : r.texts.length = n) (w : World) :
    Calls Tryz.prog 10 #[.agg #[.int .i64 r.kind, .int .i64 r.least, .int .i64 r.most, .slice a0 n cap]] w fun e w' => e = .returned (.int .i64 r.check) ∧ Below w.heap.size w w' := by
  obtain ⟨k, a, b, l⟩ := r
  dsimp only at hn ⊢
  by_cases hk : 1 ≤ k ∧ k ≤ 8
  · have HK : Hid (FR.known ⟨k, a, b, l⟩ = true) := Lib.hid (decide_eq_true hk)
    have hkd : decide (1 ≤ k ∧ k ≤ 8) = true := decide_eq_true hk
    obtain ⟨hk1, hk8⟩ := hk
    have HK1 : Hid (∀ W : World, Calls Tryz.prog 26 #[.int .i64 k] W fun e w' => e = .returned (.bool true) ∧ W = w') := Lib.hid fun W => by
      have h := known_any k W
      rwa [hkd] at h
    obtain ⟨S, hS⟩ : ∃ S, spansK k = S := ⟨_, rfl⟩
    have HS : Hid (∀ (v : Value) (W : World), Calls Tryz.prog 27 #[.agg #[.int .i64 k, .int .i64 a, .int .i64 b, v]] W fun e w' => e = .returned (.bool S) ∧ Below W.heap.size W w') := Lib.hid fun v W => by
      have h := spans_any k a b v W
      rwa [hS] at h
    have HO : Hid (FR.off ⟨k, a, b, l⟩ = decide (a < 0 ∨ (S = true ∧ b < a) ∨ 4096 < a ∨ 4096 < b)) := Lib.hid (by unfold FR.off; dsimp only; rw [hS])
    clear hkd hS
    by_cases ha : a < 0
    · have HC : Hid (FR.check ⟨k, a, b, l⟩ = 7) := Lib.hid (FR.check_7 HK.out (by rw [HO.out]; exact decide_eq_true (.inl ha)))
      rw [HC.out]
      clear hn
      go_enter Tryz.func10, Tryz.ntmps10
      go_wp2_with (go_at_call 26; refine (HK1.out _).mono ?_; rintro e w' ⟨rfl, rfl⟩)
      go_ret
      exact ⟨rfl, (Below.refl _ _).alloc (Nat.le_refl _) _⟩
    · by_cases hs : S = true ∧ b < a
      · obtain ⟨rfl, hba⟩ := hs
        have HC : Hid (FR.check ⟨k, a, b, l⟩ = 7) := Lib.hid (FR.check_7 HK.out (by rw [HO.out]; exact decide_eq_true (.inr (.inl ⟨rfl, hba⟩))))
        rw [HC.out]
        clear hn
        have hb0 := (Below.refl w.heap.size w).alloc (Nat.le_refl _) (.cells #[.int .i64 k, .int .i64 a, .int .i64 b, .slice a0 n cap] 30)
        have hr0 := Row.new w 30 [.int .i64 k, .int .i64 a, .int .i64 b, .slice a0 n cap]
        have HB := Lib.hid hb0
        have HR := Lib.hid hr0
        clear hb0 hr0
        go_enter Tryz.func10, Tryz.ntmps10
        go_wp2_with fail
        refine (HK1.out _).mono ?_
        rintro e w' ⟨rfl, rfl⟩
        go_wp2_with fail
        refine (HS.out _ _).mono ?_
        rintro e w1 ⟨rfl, hb1⟩
        have hr1 := HR.out.below hb1 (by simp)
        have hB1 := HB.out.trans (hb1.mono (by simp))
        have c0 := hr1.cell 0
        have c1 := hr1.cell 1
        have c2 := hr1.cell 2
        have c3 := hr1.cell 3
        simp only [List.getElem?_cons_zero, List.getElem?_cons_succ] at c0 c1 c2 c3
        have HBB := Lib.hid hB1
        clear hb1 hr1 hB1
        go_wp2_with fail
        go_ret
        exact ⟨rfl, HBB.out⟩
      · have hsb : S = true → a ≤ b := fun h => by
          apply Classical.byContradiction
          intro hn
          exact hs ⟨h, by omega⟩
        obtain ⟨M, hM⟩ : ∃ M, (if a < b then b else a) = M := ⟨_, rfl⟩
        have hMX : Hid ((if a > b then a else b) = M) := Lib.hid (by rw [← hM]; split <;> split <;> omega)
        have hMd : Hid (decide (4096 < M) = decide (4096 < a ∨ 4096 < b)) := Lib.hid (by rw [← hM]; congr 1; apply propext; split <;> omega)
        have HOF : Hid (FR.off ⟨k, a, b, l⟩ = decide (4096 < a ∨ 4096 < b)) := Lib.hid (by rw [HO.out]; congr 1; apply propext; constructor; exact fun h => (by rcases h with h | h | h; exact absurd h ha; exact absurd h hs; exact h); exact fun h => .inr (.inr h))
        clear HO
        obtain ⟨R, HR0⟩ : ∃ R, Hid (FR.check ⟨k, a, b, l⟩ = R) := ⟨_, Lib.hid rfl⟩
        rw [HR0.out]
        have h4 : k = 4 ∨ (k == 4) = false := by
          by_cases h : k = 4
          · exact .inl h
          · exact .inr (beq_no h)
        have HRR : Hid (if decide (4096 < M) = true then R = 7 else if k = 4 ∧ n = 0 then R = 16 else R = 0) := Lib.hid (by
          rw [hMd.out, ← HOF.out, ← HR0.out]
          split
          · rename_i h; exact FR.check_7 HK.out h
          · rename_i h
            have h : FR.off ⟨k, a, b, l⟩ = false := by simpa using h
            split
            · rename_i h4
              exact FR.check_16 HK.out h h4.1 (List.eq_nil_of_length_eq_zero (by rw [hn, h4.2]))
            · rename_i h4
              exact FR.check_0 HK.out h (fun h5 => h4 ⟨h5.1, by rw [← hn, show l = [] from h5.2]; rfl⟩))
        clear hMd HOF HR0 hn
        have HM := Lib.hid hM
        have HSB := Lib.hid hsb
        clear hM hs hsb
        have hb0 : Below w.heap.size w (w.alloc (.cells #[.int .i64 k, .int .i64 a, .int .i64 b, .slice a0 n cap] 30)) := (Below.refl w.heap.size w).alloc (Nat.le_refl _) _
        have HB := Lib.hid hb0
        clear hb0
        have hMd : decide (4096 < M) = true ∨ decide (4096 < M) = false := by cases decide (4096 < M) <;> simp
        rcases hMd with hm | hm
        · have HR7 : Hid (R = 7) := Lib.hid (by have := HRR.out; rwa [if_pos hm] at this)
          have hm := of_decide_eq_true hm
          rw [HR7.out]
          clear HRR h4
          cases S with
          | false =>
            clear HSB
            go_enter Tryz.func10, Tryz.ntmps10
            go_wp2_with fail
            refine (HK1.out _).mono ?_
            rintro e w' ⟨rfl, rfl⟩
            go_wp2_with fail
            refine (HS.out _ _).mono ?_
            rintro e w1 ⟨rfl, hb1⟩
            obtain ⟨hr1, hB1⟩ := rule_after hb1
            obtain ⟨c0, c1, c2, c3⟩ := rule_cells hr1
            have HBB := Lib.hid hB1
            clear hb1 hr1 hB1
            have hMX := hMX.out
            have hM := HM.out
            go_wp2_with fail
            go_ret
            exact ⟨rfl, HBB.out⟩
          | true =>
            have hab := HSB.out rfl
            clear HSB
            go_enter Tryz.func10, Tryz.ntmps10
            go_wp2_with fail
            refine (HK1.out _).mono ?_
            rintro e w' ⟨rfl, rfl⟩
            go_wp2_with fail
            refine (HS.out _ _).mono ?_
            rintro e w1 ⟨rfl, hb1⟩
            obtain ⟨hr1, hB1⟩ := rule_after hb1
            obtain ⟨c0, c1, c2, c3⟩ := rule_cells hr1
            have HBB := Lib.hid hB1
            clear hb1 hr1 hB1
            have hMX := hMX.out
            have hM := HM.out
            go_wp2_with fail
            go_ret
            exact ⟨rfl, HBB.out⟩
        · have hrr := HRR.out
          rw [hm, if_neg (by decide)] at hrr
          have hm := of_decide_eq_false hm
          clear HRR
          have key : (k = 4 ∧ n = 0 ∧ R = 16) ∨ (k = 4 ∧ 0 < n ∧ R = 0) ∨ ((k == 4) = false ∧ R = 0) := by
            rcases h4 with h | h
            · by_cases h0 : n = 0
              · rw [if_pos ⟨h, h0⟩] at hrr; exact .inl ⟨h, h0, hrr⟩
              · rw [if_neg (fun e => h0 e.2)] at hrr; exact .inr (.inl ⟨h, by omega, hrr⟩)
            · rw [if_neg (fun e => by rw [e.1] at h; exact absurd h (by decide))] at hrr
              exact .inr (.inr ⟨h, hrr⟩)
          clear hrr h4
          rcases key with ⟨rfl, rfl, rfl⟩ | ⟨rfl, hn0, rfl⟩ | ⟨hk4, rfl⟩
          all_goals
            cases S with
            | false =>
              clear HSB
              go_enter Tryz.func10, Tryz.ntmps10
              go_wp2_with fail
              refine (HK1.out _).mono ?_
              rintro e w' ⟨rfl, rfl⟩
              go_wp2_with fail
              refine (HS.out _ _).mono ?_
              rintro e w1 ⟨rfl, hb1⟩
              obtain ⟨hr1, hB1⟩ := rule_after hb1
              obtain ⟨c0, c1, c2, c3⟩ := rule_cells hr1
              have HBB := Lib.hid hB1
              clear hb1 hr1 hB1
              have hMX := hMX.out
              have hM := HM.out
              go_wp2_with fail
              go_ret
              exact ⟨rfl, HBB.out⟩
            | true =>
              have hab := HSB.out rfl
              clear HSB
              go_enter Tryz.func10, Tryz.ntmps10
              go_wp2_with fail
              refine (HK1.out _).mono ?_
              rintro e w' ⟨rfl, rfl⟩
              go_wp2_with fail
              refine (HS.out _ _).mono ?_
              rintro e w1 ⟨rfl, hb1⟩
              obtain ⟨hr1, hB1⟩ := rule_after hb1
              obtain ⟨c0, c1, c2, c3⟩ := rule_cells hr1
              have HBB := Lib.hid hB1
              clear hb1 hr1 hB1
              have hMX := hMX.out
              have hM := HM.out
              go_wp2_with fail
              go_ret
              exact ⟨rfl, HBB.out⟩
  · have hkd : decide (1 ≤ k ∧ k ≤ 8) = false := decide_eq_false hk
    have HK1 : Hid (∀ W : World, Calls Tryz.prog 26 #[.int .i64 k] W fun e w' => e = .returned (.bool false) ∧ W = w') := Lib.hid fun W => by
      have h := known_any k W
      rwa [hkd] at h
    have HC : Hid (FR.check ⟨k, a, b, l⟩ = 11) := Lib.hid (FR.check_11 hkd)
    rw [HC.out]
    clear hkd hk hn
    go_enter Tryz.func10, Tryz.ntmps10
    go_wp2_with (go_at_call 26; refine (HK1.out _).mono ?_; rintro e w' ⟨rfl, rfl⟩)
    go_ret
    exact ⟨rfl, (Below.refl _ _).alloc (Nat.le_refl _) _⟩
end Go.Proofs.YtheidjnapoipaaaGreatDoor
