/- Whether the disk and the document's show, and keep, the same. (In one text with what it leans on: LFRef, LRAd, LRRn, LPy3, LPy4, LPy5, LPy6, LPyF, Awk, Awk5, LAwk, QDo, QSame.) -/
import Derived.WalkKit
import Derived.WalkSpells
import Derived.WalkLawsBesides
import Derived.Lib.Hide
import Derived.Deep.QuietTactic
import Derived.BigQuiet
import Derived.Test.YtiaaeniopjpfpaaGreatDoorLogPlaysAll1
import Derived.Test.YtiaaeniopjpfpaaGreatDoorLogPlaysAll2
import Derived.Test.YtiaaeniopjpfpaaGreatDoorRows
import Derived.Test.YtiaaeniopjpfpaaGreatDoorPlain
import Derived.Test.YtiaaeniopjpfpaaGreatDoorMem
import Derived.Test.YtiaaeniopjpfpaaGreatDoorPut
import Derived.Test.YtiaaeniopjpfpaaGreatDoorCsum
import Derived.Test.YtiaaeniopjpfpaaGreatDoorSText
import Derived.Test.YtiaaeniopjpfpaaGreatDoorKAwk
import Derived.Test.YtiaaeniopjpfpaaGreatDoorKFill
import Derived.Test.YtiaaeniopjpfpaaGreatDoorKEq
import Derived.Test.YtiaaeniopjpfpaaGreatDoorKQuiet
namespace Go.Proofs.YtiaaeniopjpfpaaGreatDoor
open Go.RowKit Go.Maps Go.Shelf
set_option linter.unusedVariables false
set_option linter.unusedSimpArgs false

theorem rows_apart {W : World} {b1 b2 n1 n2 : Nat} {e1 e2 : TypeId} {v1 v2 : Value} {x1 x2 : List Value} (h1 : W.ownsRow b1 e1 1 v1 n1 x1) (h2 : W.ownsRow b2 e2 1 v2 n2 x2) (he : e1 ≠ e2) : v1.ownBlock = none ∨ v1.ownBlock ≠ v2.ownBlock := by
  rcases h1.2 with ⟨rfl, _⟩ | ⟨g, cap, cur, rfl, _, hg, _⟩
  · exact .inl rfl
  · refine .inr fun e => ?_
    rcases h2.2 with ⟨rfl, _⟩ | ⟨g', cap', cur', rfl, _, hg', _⟩
    · simp [Value.ownBlock] at e
    · simp [Value.ownBlock] at e
      subst e
      rw [hg] at hg'
      cases hg'
      exact he rfl
theorem str_infoR : (Tryz.prog.info? 9).map (fun i => (i.zero, i.size, i.bytes)) = some (some (.string ⟨#[]⟩), 1, 16) := by kernel_rfl
theorem int_infoR : (Tryz.prog.info? 3).map (fun i => (i.zero, i.size, i.bytes)) = some (some (.int .i64 0), 1, 8) := by kernel_rfl
theorem framedL_take {n : Nat} {s : List UInt8} (h28 : 28 ≤ s.length) (z : Nat) (hz : getL ((s.drop 4).take 4) = z) (hle : z ≤ s.length - 28) :
    framedL n s = if s.take (28 + z) = frameL n ((s.drop 28).take z) then some ((s.drop 28).take z) else none := by
  unfold framedL
  rw [if_neg (by omega), hz, if_neg (by rw [List.length_drop]; omega)]
  have e : s.take (28 + z) = s.take 28 ++ (s.drop 28).take z := List.take_add
  have hh := headL_length n ((s.drop 28).take z)
  unfold frameL
  rw [e]
  by_cases h : s.take 28 = headL n ((s.drop 28).take z)
  · rw [if_pos h, if_pos (by rw [h])]
  · rw [if_neg h, if_neg (fun hx => h ?_)]
    exact (List.append_inj hx (by rw [hh, List.length_take]; omega)).1

set_option maxRecDepth 20000 in
set_option maxHeartbeats 4000000 in
theorem refFrames_any (s : List UInt8) (hs : s.length ≤ 50000) (w : World) :
    Calls Tryz.prog 26 #[.string (tx s)] w fun e w' => ∃ v u, e = .returned (.tuple #[v, u]) ∧ w'.ownsRow w.heap.size 9 1 v (framesL s).length ((framesL s).map fun x => Value.string (tx x.2)) ∧
      w'.ownsRow w.heap.size 3 1 u (framesL s).length ((framesL s).map fun x => Value.int .i64 (x.1 : Nat)) ∧ Below w.heap.size w w' := by
  obtain ⟨i0, hi, hz0, hz1, hz2⟩ := info_parts str_infoR
  obtain ⟨i1, hj, hy0, hy1, hy2⟩ := info_parts int_infoR
  obtain ⟨k, hk⟩ : ∃ k, s.length = k := ⟨_, rfl⟩
  have hsz : (tx s).size = k := by rw [tx_size, hk]
  have hkI : (k : Int) ≤ 50000 := by omega
  have hfl : (framesL s).length ≤ k := by rw [← hk]; exact framesF_length _ _ _ _
  have HCUT : Hid (∀ a b, a ≤ b → b ≤ k → (tx s).extract a b = tx ((s.take b).drop a)) := Lib.hid fun a b h1 h2 => tx_cut s a b h1 (by omega)
  have HGET : Hid (∀ (F : List UInt8), F.length = 4 → ∀ W : World, Calls Tryz.prog 63 #[.string (tx F)] W fun e w' => e = .returned (.int .u64 (getL F : Nat)) ∧ W = w') := Lib.hid fun F hF W => by
    have h := refGet_any (tx F) W (by rw [tx_size]; omega)
    rw [tx_list] at h
    exact h
  obtain ⟨S, hS⟩ : ∃ S, tx s = S := ⟨_, rfl⟩
  rw [hS] at hsz HCUT ⊢
  go_enter Tryz.func26, Tryz.ntmps26
  go_wp2_with fail
  go_loopw [4, 5, 6] (fun v u a wr => ∃ (pre : List (Nat × List UInt8)) (e q : Nat), a = .int .i64 (e : Nat) ∧ e ≤ k ∧ pre.length ≤ e ∧ k ≤ q + e ∧ Hid (framesL s = pre ++ framesF q (pre.length + 1) e (s.drop e)) ∧
      wr.ownsRow w.heap.size 9 1 v pre.length (pre.map fun x => Value.string (tx x.2)) ∧ wr.ownsRow w.heap.size 3 1 u pre.length (pre.map fun x => Value.int .i64 (x.1 : Nat)) ∧ Below w.heap.size w wr) (fun _ _ a _ => k - (intOf a).toNat)
  case atStart => exact ⟨[], 0, k, rfl, Nat.zero_le _, Nat.le_refl _, Nat.le_refl _, Lib.hid (by unfold framesL; rw [hk]; rfl), World.ownsRow_nil _ _ _ _, World.ownsRow_nil _ _ _ _, Below.refl _ _⟩
  case round =>
    obtain ⟨pre, e, q, rfl, he, hpe, hq, HX, hr1, hr2, hB⟩ := hrel
    obtain ⟨R, hR⟩ : ∃ R, s.drop e = R := ⟨_, rfl⟩
    have hRl : R.length = k - e := by rw [← hR, List.length_drop, hk]
    rw [hR] at HX
    have heI : (e : Int) ≤ (k : Int) := by omega
    by_cases h28 : R.length < 28
    · have HE : Hid (framesL s = pre) := Lib.hid (by rw [HX.out, framesF_none (by unfold framedL; rw [if_pos h28]), List.append_nil])
      have HR := Lib.hid (And.intro hr1 (And.intro hr2 hB))
      have h1 : (k : Int) < (e : Int) + 28 := by omega
      clear HX h28 hR hRl hr1 hr2 hB
      go_wp2_with fail
      go_ret2
      exact ⟨_, _, rfl, by rw [HE.out]; exact HR.out.1, by rw [HE.out]; exact HR.out.2.1, HR.out.2.2⟩
    · obtain ⟨F, hF⟩ : ∃ F, (R.drop 4).take 4 = F := ⟨_, rfl⟩
      have hFl : F.length = 4 := by rw [← hF, List.length_take, List.length_drop]; omega
      obtain ⟨z, hz⟩ : ∃ z, getL F = z := ⟨_, rfl⟩
      have hz4 : z < 4294967296 := by
        rw [← hz]
        have h := getL_lt F
        rw [hFl] at h
        exact h
      have hc1 : S.extract (e + 4) (e + 8) = tx F := by
        rw [HCUT.out (e + 4) (e + 8) (by omega) (by omega), ← hF, ← hR, List.drop_take, List.drop_drop]
        congr 2
        omega
      have HG := Lib.hid (HGET.out F hFl)
      rw [hz] at HG
      have h1 : (e : Int) + 28 ≤ (k : Int) := by omega
      have hzI : (z : Int) < 4294967296 := by omega
      by_cases hzr : k - e - 28 < z
      · have HE : Hid (framesL s = pre) := Lib.hid (by
          rw [HX.out, framesF_none (by unfold framedL; rw [if_neg h28, hF, hz, if_pos (by rw [List.length_drop, hRl]; omega)]), List.append_nil])
        have HR := Lib.hid (And.intro hr1 (And.intro hr2 hB))
        have h2 : (k : Int) - (e : Int) - 28 < (z : Int) := by omega
        clear HX h28 hR hRl hF hFl hz hr1 hr2 hB
        go_wp2_with fail
        refine (HG.out _).mono ?_
        rintro e1 w1 ⟨rfl, rfl⟩
        go_wp2_with fail
        go_ret2
        exact ⟨_, _, rfl, by rw [HE.out]; exact HR.out.1, by rw [HE.out]; exact HR.out.2.1, HR.out.2.2⟩
      · obtain ⟨T, hT⟩ : ∃ T, (R.drop 28).take z = T := ⟨_, rfl⟩
        have hTl : T.length = z := by rw [← hT, List.length_take, List.length_drop, hRl]; omega
        have hfr := framedL_take (n := pre.length + 1) (s := R) (by omega) z (by rw [hF, hz]) (by omega)
        rw [hT] at hfr
        have hc2 : S.extract (e + 28) (e + 28 + z) = tx T := by
          rw [HCUT.out (e + 28) (e + 28 + z) (by omega) (by omega), ← hT, ← hR, List.drop_take, List.drop_drop]
          congr 2
          omega
        have hc3 : S.extract e (e + (28 + z)) = tx (R.take (28 + z)) := by
          rw [HCUT.out e (e + (28 + z)) (by omega) (by omega), ← hR, List.drop_take]
          congr 2
          omega
        obtain ⟨U, hU⟩ : ∃ U, R.take (28 + z) = U := ⟨_, rfl⟩
        obtain ⟨V, hV⟩ : ∃ V, frameL (pre.length + 1) T = V := ⟨_, rfl⟩
        have hVl : V.length = 28 + z := by rw [← hV, frameL_length, hTl]
        rw [hU, hV] at hfr
        rw [hU] at hc3
        have HFR : Hid (∀ W, Calls Tryz.prog 25 #[.int .i64 ((pre.length : Int) + 1), .string (tx T)] W fun e w' => e = .returned (.string (tx V)) ∧ Below W.heap.size W w') := Lib.hid fun W => by
          have h := refFrame_any (pre.length + 1) T (by omega) (by omega) W
          rw [hV, show ((pre.length + 1 : Nat) : Int) = (pre.length : Int) + 1 by omega] at h
          exact h
        have hvs : (tx V).size = 28 + z := by rw [tx_size, hVl]
        have h2 : decide ((k : Int) - (e : Int) - 28 < (z : Int)) = false := by rw [decide_eq_false_iff_not]; omega
        have h3 : (e : Int) + 28 + (z : Int) ≤ (k : Int) := by omega
        have hpI : (pre.length : Int) ≤ 50000 := by omega
        obtain ⟨Y, hY⟩ : ∃ Y, tx T = Y := ⟨_, rfl⟩
        rw [hY] at hc2 HFR
        obtain ⟨v1, v2, rfl⟩ : ∃ ao cap, u4 = .slice ao pre.length cap := by
          rcases hr1.2 with ⟨rfl, h0⟩ | ⟨g, cap, cur, rfl, _⟩
          · exact ⟨none, 0, by rw [h0]⟩
          · exact ⟨_, cap, rfl⟩
        have HR := Lib.hid (And.intro hr1 (And.intro hr2 hB))
        by_cases heq : U = V
        · rw [if_pos heq] at hfr
          obtain ⟨q, rfl⟩ : ∃ q', q = q' + 1 := ⟨q - 1, by omega⟩
          have hX2 := HX.out
          rw [framesF_some hfr, hTl] at hX2
          have hdr : R.drop (z + 28) = s.drop (e + (z + 28)) := by rw [← hR, List.drop_drop]
          have HX2 : Hid (framesL s = (pre ++ [(e + (z + 28), T)]) ++ framesF q ((pre ++ [(e + (z + 28), T)]).length + 1) (e + (z + 28)) (s.drop (e + (z + 28)))) := Lib.hid (by rw [hX2, hdr]; simp)
          subst heq
          obtain ⟨X, hX⟩ : ∃ X, tx U = X := ⟨_, rfl⟩
          rw [hX] at hc3 HFR hvs
          have HQ := Lib.hid (And.intro he (And.intro hpe hq))
          have hs1 := hB.size
          clear HX hX2 hdr hfr h28 hR hRl hF hFl hz hz4 hzr hT hTl hU hV hVl hr1 hr2 hB hX
          go_wp2_with fail
          refine (HG.out _).mono ?_
          rintro e1 w1 ⟨rfl, rfl⟩
          go_wp2_with fail
          rw [hc2]
          refine (HFR.out _).mono ?_
          rintro e1 w1 ⟨rfl, hb1⟩
          have hs2 := hb1.size
          have HR1 : Hid (w1.ownsRow w.heap.size 9 1 (.slice v1 pre.length v2) pre.length (pre.map fun x => Value.string (tx x.2)) ∧ w1.ownsRow w.heap.size 3 1 u5 pre.length (pre.map fun x => Value.int .i64 (x.1 : Nat)) ∧ Below w.heap.size w w1) := Lib.hid
            ⟨HR.out.1.kept (grownBy_below hb1 none) (by cases Value.ownBlock (.slice v1 pre.length v2) <;> simp), HR.out.2.1.kept (grownBy_below hb1 none) (by cases Value.ownBlock u5 <;> simp), HR.out.2.2.trans (hb1.mono HR.out.2.2.size)⟩
          clear hb1 HR
          go_wp2_with (first
            | (at_builtin; refine wpList_append_own _ rfl (.tmp 61) (.tmp 63) 31 rfl w.heap.size 9 i0 (.string ⟨#[]⟩) 1 16 Tryz.underlying31 hi hz0 hz1 hz2 rfl (by decide) _ _ _ rfl (HR1.out.1.alloc _) ⟨w1.heap.size, 0, none⟩ 1 1 [.string Y] rfl rfl (World.news_of_block (cs := #[.string Y]) (t := 9) (fr := (0, 0)) (heap_alloc_new w1 _)) (by simp [Value.oneCell']) (by unfold maxLen; omega) (by omega) (by simp; omega) ?_; intro v4 w4 hown4 hg4 hnil4; have HO4 := Lib.hid hown4; have HG4 := Lib.hid hg4; have HU4 : Hid (w4.ownsRow w.heap.size 3 1 u5 pre.length (pre.map fun x => Value.int .i64 (x.1 : Nat)) ∧ w1.heap.size + 1 ≤ w4.heap.size) := Lib.hid ⟨(HR1.out.2.1.alloc _).kept hg4 (rows_apart HR1.out.2.1 HR1.out.1 (by decide)), by have := hg4.size; rw [World.size_alloc] at this; exact this⟩; have hs4 := HU4.out.2; clear hown4 hg4 hnil4)
            | (at_builtin; refine wpList_append_own _ rfl (.tmp 65) (.tmp 67) 55 rfl w.heap.size 3 i1 (.int .i64 0) 1 8 Tryz.underlying55 hj hy0 hy1 hy2 rfl (by decide) _ _ _ rfl (HU4.out.1.alloc _) ⟨_, 0, none⟩ 1 1 [_] rfl rfl (World.news_of_block (t := 3) (fr := (0, 0)) (heap_alloc_new _ _)) (by simp [Value.oneCell']) (by unfold maxLen; omega) (by omega) (by simp; omega) ?_; intro v5 w5 hown5 hg5 hnil5))
          go_roundw
          case rel => 
            have hr4 := (HO4.out.alloc (.cells #[Value.int .i64 ((e : Int) + (28 + (z : Int)))] 3)).kept hg5 (rows_apart HO4.out HU4.out.1 (by decide))
            have hB4 : Below w.heap.size w w4 := (HR1.out.2.2.alloc HR1.out.2.2.size _).grown HG4.out (by rw [World.size_alloc]; omega) (fun i e => (HR1.out.1.lt i e).1)
            have hB5 : Below w.heap.size w w5 := (hB4.alloc hB4.size _).grown hg5 (by rw [World.size_alloc]; omega) (fun i e => (HU4.out.1.lt i e).1)
            exact ⟨pre ++ [(e + (z + 28), T)], e + (z + 28), q, by go_num, by omega, by rw [List.length_append, List.length_singleton]; have := HQ.out; omega, by have := HQ.out; omega, HX2, by simpa [hY] using hr4, by have h9 := hown5; rw [show (e : Int) + (28 + (z : Int)) = (e : Int) + ((z : Int) + 28) by omega] at h9; simpa using h9, hB5⟩
          case measure => simp [intOf]; omega
        · rw [if_neg heq] at hfr
          have HE : Hid (framesL s = pre) := Lib.hid (by rw [HX.out, framesF_none hfr, List.append_nil])
          have hne := str_ne (fun h => heq (by rw [← tx_list U, ← tx_list V, h]) : tx U ≠ tx V)
          obtain ⟨X, hX⟩ : ∃ X, tx U = X := ⟨_, rfl⟩
          obtain ⟨Z, hZ⟩ : ∃ Z, tx V = Z := ⟨_, rfl⟩
          rw [hX] at hc3 hne
          rw [hZ] at HFR hvs hne
          have hs1 := hB.size
          clear HX hfr h28 hR hRl hF hFl hz hz4 hzr hT hTl hU hV hVl hr1 hr2 hB hX hZ heq
          go_wp2_with fail
          refine (HG.out _).mono ?_
          rintro e1 w1 ⟨rfl, rfl⟩
          go_wp2_with fail
          rw [hc2]
          refine (HFR.out _).mono ?_
          rintro e1 w1 ⟨rfl, hb1⟩
          have HB1 := Lib.hid hb1
          clear hb1
          go_wp2_with fail
          go_ret2
          have hb1 := HB1.out
          exact ⟨_, _, rfl, by rw [HE.out]; exact HR.out.1.kept (grownBy_below hb1 none) (by cases Value.ownBlock (.slice v1 pre.length v2) <;> simp), by rw [HE.out]; exact HR.out.2.1.kept (grownBy_below hb1 none) (by cases Value.ownBlock u5 <;> simp), HR.out.2.2.trans (hb1.mono HR.out.2.2.size)⟩
end Go.Proofs.YtiaaeniopjpfpaaGreatDoor

namespace Go.Proofs.YtiaaeniopjpfpaaGreatDoor
open Go Go.RowKit Go.Maps
set_option linter.unusedVariables false
set_option linter.unusedSimpArgs false

/-- What the document's log knows beside its disk. -/
structure RL where
  num : Nat
  half : Nat
  texts : List (List UInt8)
  bytes : List UInt8
  lost : Int
def RL.cells (p : Nat) (tv : Value) (r : RL) : List Value := [.pointer (some ⟨p, 0, none⟩), .int .u64 (r.num : Nat), .int .u64 (r.half : Nat), tv, .string (tx r.bytes), .int .i64 r.lost]
def RL.vals (r : RL) : List Value := r.texts.map fun t => Value.string (tx t)
def RL.putR (r : RL) (D : DS) (f : List UInt8) : DS × Int := putG 2100 D (2 + r.half * secs D + r.bytes.length / 128) (r.bytes.drop (r.bytes.length / 128 * 128) ++ f)
def RL.add (r : RL) (D : DS) (t : List UInt8) : (RL × DS) × Int :=
  if r.lost ≠ 0 then ((r, D), r.lost) else if 16384 < t.length then ((r, D), 5) else if secs D * 128 < r.bytes.length + (t.length + 28) then ((r, D), 14) else
  if (r.putR D (frameL (r.texts.length + 1) t)).2 ≠ 0 then (({ r with lost := (r.putR D (frameL (r.texts.length + 1) t)).2 }, (r.putR D (frameL (r.texts.length + 1) t)).1), (r.putR D (frameL (r.texts.length + 1) t)).2)
  else (({ r with texts := r.texts ++ [t], bytes := r.bytes ++ frameL (r.texts.length + 1) t }, (r.putR D (frameL (r.texts.length + 1) t)).1), 0)

section
variable {L : Nat → Prop} {w : World} {lp p gl : Nat} {hv tv : Value} {D : DS} {r : RL}
set_option maxRecDepth 4000 in
theorem refRoom_any (hr : Row w lp 37 (r.cells p tv)) (hd : RefIs L w p D) :
    Calls Tryz.prog 21 #[.pointer (some ⟨lp, 0, none⟩)] w fun e w' => e = .returned (.int .i64 (secs D * 128 : Nat)) ∧ w = w' := by
  obtain ⟨gl0, hv0, hd0⟩ := hd
  have h16 := hd0.good.least
  have h4096 := hd0.good.most
  have c0 := hr.cell 0
  simp only [RL.cells, List.getElem?_cons_zero] at c0
  have d0 := hd0.row.cell 0
  simp only [List.getElem?_cons_zero] at d0
  obtain ⟨m, hm⟩ : ∃ m, D.lasts.length = m := ⟨_, rfl⟩
  have hsec : secs D = (m - 2) / 2 := by unfold secs; rw [hm]
  rw [hm] at d0 h16 h4096
  rw [hsec]
  have hmI : (16 : Int) ≤ (m : Int) := by omega
  have hm4 : (m : Int) ≤ 4096 := by omega
  have HE : Hid ((((m - 2) / 2 * 128 : Nat) : Int) = ((m : Int) - 2) / 2 * 128) := Lib.hid (by omega)
  clear hr hd0 h16 h4096 hm hsec
  go_enter Tryz.func21, Tryz.ntmps21
  go_wp2_with fail
  go_ret
  rw [HE.out]
  exact ⟨rfl, rfl⟩

set_option maxRecDepth 4000 in
theorem refAdd_lost (hr : Row w lp 37 (r.cells p tv)) (hl : r.lost ≠ 0) (t : List UInt8) :
    Calls Tryz.prog 17 #[.pointer (some ⟨lp, 0, none⟩), .string (tx t)] w fun e w' => e = .returned (.int .i64 r.lost) ∧ w = w' := by
  have c5 := hr.cell 5
  simp only [RL.cells, List.getElem?_cons_zero, List.getElem?_cons_succ] at c5
  obtain ⟨x, hx⟩ : ∃ x, r.lost = x := ⟨_, rfl⟩
  rw [hx] at c5 hl ⊢
  have hb : ((x : Int) != 0) = true := by simpa using hl
  clear hr hx hl
  go_enter Tryz.func17, Tryz.ntmps17
  go_wp2_with fail
  go_ret
  exact ⟨rfl, rfl⟩

set_option maxRecDepth 4000 in
theorem refAdd_long (hr : Row w lp 37 (r.cells p tv)) (hl : r.lost = 0) (t : List UInt8) (h1 : 16384 < t.length) (h2 : t.length ≤ 100000) :
    Calls Tryz.prog 17 #[.pointer (some ⟨lp, 0, none⟩), .string (tx t)] w fun e w' => e = .returned (.int .i64 5) ∧ w = w' := by
  have c5 := hr.cell 5
  simp only [RL.cells, List.getElem?_cons_zero, List.getElem?_cons_succ, hl] at c5
  have hs : (tx t).size = t.length := tx_size t
  obtain ⟨n, hn⟩ : ∃ n, t.length = n := ⟨_, rfl⟩
  rw [hn] at hs h1 h2
  have h1I : (16384 : Int) < (n : Int) := by omega
  have h2I : (n : Int) ≤ 100000 := by omega
  clear hr hl hn h1 h2
  go_enter Tryz.func17, Tryz.ntmps17
  go_wp2_with fail
  go_ret
  exact ⟨rfl, rfl⟩

set_option maxRecDepth 20000 in
set_option maxHeartbeats 2000000 in
theorem refAdd_room (hr : Row w lp 37 (r.cells p tv)) (htv : w.ownsRow 0 9 1 tv r.texts.length r.vals) (hd : RefIs L w p D) (hL : ∀ k, L k → k < w.heap.size) (hlp : L lp) (hlt : ∀ g, tv.ownBlock = some g → L g)
    (hn : r.texts.length ≤ 1000) (hby : r.bytes.length ≤ secs D * 128) (hhf : r.half ≤ 1) (hs : D.steps ≤ 1000000) (hhg : D.hangs.length ≤ 1000000)
    (hl : r.lost = 0) (t : List UInt8) (h1 : t.length ≤ 16384) :
    Calls Tryz.prog 17 #[.pointer (some ⟨lp, 0, none⟩), .string (tx t)] w fun e w' => e = .returned (.int .i64 (r.add D t).2) ∧
      (∃ tv', Row w' lp 37 ((r.add D t).1.1.cells p tv') ∧ w'.ownsRow 0 9 1 tv' (r.add D t).1.1.texts.length (r.add D t).1.1.vals ∧ (∀ g, tv'.ownBlock = some g → tv' = tv ∨ w.heap.size ≤ g) ∧
      RefIs (fun k => L k ∨ tv'.ownBlock = some k) w' p (r.add D t).1.2) ∧ Keeps (fun k => L k ∧ k ≠ lp) w w' := by
  obtain ⟨av, cv, rfl⟩ := own_slice htv
  obtain ⟨gl0, hv0, hd0⟩ := id hd
  have hsec : secs D ≤ 2047 := by have := hd0.good.most; unfold secs; omega
  have hadd : r.add D t = if secs D * 128 < r.bytes.length + (t.length + 28) then ((r, D), 14) else
      if (r.putR D (frameL (r.texts.length + 1) t)).2 ≠ 0 then (({ r with lost := (r.putR D (frameL (r.texts.length + 1) t)).2 }, (r.putR D (frameL (r.texts.length + 1) t)).1), (r.putR D (frameL (r.texts.length + 1) t)).2)
      else (({ r with texts := r.texts ++ [t], bytes := r.bytes ++ frameL (r.texts.length + 1) t }, (r.putR D (frameL (r.texts.length + 1) t)).1), 0) := by
    unfold RL.add
    rw [if_neg (by simp [hl]), if_neg (by omega)]
  rw [hadd]
  obtain ⟨F, hF⟩ : ∃ F, frameL (r.texts.length + 1) t = F := ⟨_, rfl⟩
  have hFl : F.length = t.length + 28 := by rw [← hF, frameL_length]; omega
  rw [hF]
  have HFR : Hid (∀ W, Calls Tryz.prog 25 #[.int .i64 ((r.texts.length : Int) + 1), .string (tx t)] W fun e w' => e = .returned (.string (tx F)) ∧ Below W.heap.size W w') := Lib.hid fun W => by
    have h := refFrame_any (r.texts.length + 1) t (by omega) (by omega) W
    rw [hF, show ((r.texts.length + 1 : Nat) : Int) = (r.texts.length : Int) + 1 by omega] at h
    exact h
  have hBs : (tx r.bytes).size = r.bytes.length := tx_size _
  have hTs : (tx t).size = t.length := tx_size _
  have hFs : (tx F).size = F.length := tx_size _
  have HRM : Hid (∀ W, Row W lp 37 (r.cells p (.slice av r.texts.length cv)) → RefIs L W p D → Calls Tryz.prog 21 #[.pointer (some ⟨lp, 0, none⟩)] W fun e w' => e = .returned (.int .i64 (secs D * 128 : Nat)) ∧ W = w') := Lib.hid fun W h1 h2 => refRoom_any h1 h2
  have c0 := hr.cell 0
  have c3 := hr.cell 3
  have c4 := hr.cell 4
  have c5 := hr.cell 5
  obtain ⟨q, hq⟩ : ∃ q, r.putR D F = q := ⟨_, rfl⟩
  rw [hq]
  have HPUTw : Hid (∀ W, Below w.heap.size w W → Calls Tryz.prog 48 #[.pointer (some ⟨lp, 0, none⟩), .int .u64 (r.half : Nat), .int .i64 ((r.bytes.length / 128 : Nat) : Int), .string (tx (r.bytes.drop (r.bytes.length / 128 * 128) ++ F))] W fun e w' => e = .returned (.int .i64 q.2) ∧ RefIs L w' p q.1 ∧ Keeps L W w') := Lib.hid fun W hW => by
    have h := refWrite_any (L := L) (w := W) (lp := lp) (p := p) (D := D) (fun k hk => Nat.lt_of_lt_of_le (hL k hk) hW.size) hlp (hr.below hW hr.lt) (hd.below hW) r.half (r.bytes.length / 128) 2100 hhf (by omega) (r.bytes.drop (r.bytes.length / 128 * 128) ++ F) (by rw [List.length_append, List.length_drop, hFl]; omega) (by omega) hs hhg
    have e : putG 2100 D (2 + r.half * secs D + r.bytes.length / 128) (r.bytes.drop (r.bytes.length / 128 * 128) ++ F) = q := hq
    rw [e] at h
    exact h
  have HRW := Lib.hid (And.intro hr (And.intro htv (And.intro hd (And.intro hL (And.intro hlp (And.intro hlt hl))))))
  obtain ⟨n, hnn⟩ : ∃ n, r.texts.length = n := ⟨_, rfl⟩
  obtain ⟨B, hB⟩ : ∃ B, r.bytes.length = B := ⟨_, rfl⟩
  obtain ⟨k, hk⟩ : ∃ k, t.length = k := ⟨_, rfl⟩
  obtain ⟨S, hS⟩ : ∃ S, secs D * 128 = S := ⟨_, rfl⟩
  obtain ⟨BT, hBT⟩ : ∃ BT, r.bytes = BT := ⟨_, rfl⟩
  obtain ⟨half, hhalf⟩ : ∃ half, r.half = half := ⟨_, rfl⟩
  obtain ⟨num, hnum⟩ : ∃ num, r.num = num := ⟨_, rfl⟩
  simp only [RL.cells, List.getElem?_cons_zero, List.getElem?_cons_succ, hl] at c0 c3 c4 c5
  rw [hB] at hBs
  rw [hk] at hTs hFl
  rw [hFl] at hFs
  rw [hnn] at HFR
  rw [hB, hS] at hby
  rw [hS, hB, hk]
  rw [hB, hBT, hhalf] at HPUTw
  rw [hS] at HRM
  rw [hBT] at c4 hBs hB
  have hnI : (n : Int) ≤ 1000 := by omega
  have hkI : (k : Int) ≤ 16384 := by omega
  have hSI : (S : Int) ≤ 262016 := by omega
  have hBI : (B : Int) ≤ (S : Int) := by omega
  have hRC : r.cells p (.slice av r.texts.length cv) = [.pointer (some ⟨p, 0, none⟩), .int .u64 (num : Nat), .int .u64 (half : Nat), .slice av n cv, .string (tx BT), .int .i64 0] := by unfold RL.cells; rw [hnum, hhalf, hBT, hl, hnn]
  have HRC := Lib.hid hRC
  obtain ⟨T, hT⟩ : ∃ T, tx t = T := ⟨_, rfl⟩
  rw [hT] at hTs HFR ⊢
  have HEQ := Lib.hid (And.intro hBT (And.intro hhalf (And.intro hnum (And.intro hT (And.intro hF (And.intro hnn (And.intro hB hk)))))))
  clear hr htv hd hd0 hL hlp hlt hs hhg hsec hadd hF hFl hq hl hnn hB hk hS hBT hhalf hnum hRC hT hn hby hhf h1
  try rw [HEQ.out.2.2.2.2.2.1] at c3
  by_cases hroom : S < B + (k + 28)
  · rw [if_pos hroom]
    have hrI : (S : Int) < (B : Int) + ((k : Int) + 28) := by omega
    clear hroom HPUTw
    go_enter Tryz.func17, Tryz.ntmps17
    go_wp2_with fail
    refine (HFR.out _).mono ?_
    rintro e w1 ⟨rfl, hb1⟩
    have HB1 := Lib.hid hb1
    clear hb1
    go_wp2_with fail
    have hdr : Below w.heap.size w w1.drew := below_drewK HB1.out 1
    have HS6 : Hid (Row w1.drew lp 37 [.pointer (some ⟨p, 0, none⟩), .int .u64 (num : Nat), .int .u64 (half : Nat), .slice av n cv, .string (tx BT), .int .i64 0]) := Lib.hid (by rw [← HRC.out]; exact HRW.out.1.below hdr HRW.out.1.lt)
    have HR6 : Hid _ := Lib.hid (HRM.out w1.drew (HRW.out.1.below hdr HRW.out.1.lt) (HRW.out.2.2.1.below hdr))
    have HDR := Lib.hid hdr
    clear hdr
    refine wp_region_noPanic ?_
    refine wp_region_held_drew (S := fun W => Row W lp 37 [.pointer (some ⟨p, 0, none⟩), .int .u64 (num : Nat), .int .u64 (half : Nat), .slice av n cv, .string (tx BT), .int .i64 0]) (by kernel_rfl) HS6.out (fun hHeld => ?_)
    refine wpAnyH_take (i := 0) (oi := { dst := some 29, op := Op.move (Operand.tmp 0), type := 34, pos := "ref.go:73", after := #[], guard := none }) (v := ?vvf_0) rfl (by kernel_rfl) (by kernel_rfl) (by kernel_rfl) (fun _ _ _ h => h) (Or.inl ⟨by rfl, ?yyf_0⟩) hHeld ?_
    case vvf_0 => exact .pointer (some ⟨lp, 0, none⟩)
    case yyf_0 =>
      intro W hS
      go_simp
    try simp only [Act.put, List.setIfInBounds_toArray, List.set_cons_zero, List.set_cons_succ]
    refine wpAnyH_take (i := 1) (oi := { dst := some 30, op := Op.nilCheck (Operand.tmp 29), type := 0, pos := "ref.go:73", after := #[{ on := 0, ground := Ground.data }], guard := none }) (v := ?vvf_1) rfl (by kernel_rfl) (by kernel_rfl) (by kernel_rfl) (fun _ _ _ h => h) (Or.inl ⟨by rfl, ?yyf_1⟩) hHeld ?_
    case vvf_1 => exact .pointer (some ⟨lp, 0, none⟩)
    case yyf_1 =>
      intro W hS
      go_simp
    try simp only [Act.put, List.setIfInBounds_toArray, List.set_cons_zero, List.set_cons_succ]
    refine wpAnyH_take (i := 2) (oi := { dst := some 31, op := Op.fieldAddr 37 (Operand.tmp 30) 4, type := 0, pos := "ref.go:73", after := #[{ on := 1, ground := Ground.data }], guard := none }) (v := ?vvf_2) rfl (by kernel_rfl) (by kernel_rfl) (by kernel_rfl) (fun _ _ _ h => h) (Or.inl ⟨by rfl, ?yyf_2⟩) hHeld ?_
    case vvf_2 => exact .pointer (some ⟨lp, 4, none⟩)
    case yyf_2 =>
      intro W hS
      go_simp
    try simp only [Act.put, List.setIfInBounds_toArray, List.set_cons_zero, List.set_cons_succ]
    refine wpAnyH_take (i := 3) (oi := { dst := some 32, op := Op.load 9 (Operand.tmp 31), type := 9, pos := "ref.go:73", after := #[{ on := 2, ground := Ground.data }], guard := none }) (v := ?vvf_3) rfl (by kernel_rfl) (by kernel_rfl) (by kernel_rfl) (fun _ _ _ h => h) (Or.inl ⟨by rfl, ?yyf_3⟩) hHeld ?_
    case vvf_3 => exact .string (tx BT)
    case yyf_3 =>
      intro W hS
      have q0 := Row.cell hS 4
      simp only [List.getElem?_cons_zero, List.getElem?_cons_succ] at q0
      go_simp
    try simp only [Act.put, List.setIfInBounds_toArray, List.set_cons_zero, List.set_cons_succ]
    refine wpAnyH_take (i := 4) (oi := { dst := some 33, op := Op.call { callee := Callee.builtin Builtin.len, args := #[Operand.tmp 32], argTypes := #[9] }, type := 3, pos := "ref.go:73", after := #[{ on := 3, ground := Ground.data }], guard := none }) (v := ?vvf_4) rfl (by kernel_rfl) (by kernel_rfl) (by kernel_rfl) (fun _ _ _ h => h) (Or.inl ⟨by rfl, ?yyf_4⟩) hHeld ?_
    case vvf_4 => exact .int .i64 (B : Nat)
    case yyf_4 =>
      intro W hS
      go_simp
    try simp only [Act.put, List.setIfInBounds_toArray, List.set_cons_zero, List.set_cons_succ]
    refine wpAnyH_take (i := 5) (oi := { dst := some 34, op := Op.move (Operand.tmp 5), type := 9, pos := "ref.go:73", after := #[], guard := none }) (v := ?vvf_5) rfl (by kernel_rfl) (by kernel_rfl) (by kernel_rfl) (fun _ _ _ h => h) (Or.inl ⟨by rfl, ?yyf_5⟩) hHeld ?_
    case vvf_5 => exact .string (tx F)
    case yyf_5 =>
      intro W hS
      go_simp
    try simp only [Act.put, List.setIfInBounds_toArray, List.set_cons_zero, List.set_cons_succ]
    refine wpAnyH_take (i := 6) (oi := { dst := some 35, op := Op.call { callee := Callee.builtin Builtin.len, args := #[Operand.tmp 34], argTypes := #[9] }, type := 3, pos := "ref.go:73", after := #[{ on := 5, ground := Ground.data }], guard := none }) (v := ?vvf_6) rfl (by kernel_rfl) (by kernel_rfl) (by kernel_rfl) (fun _ _ _ h => h) (Or.inl ⟨by rfl, ?yyf_6⟩) hHeld ?_
    case vvf_6 => exact .int .i64 ((k : Int) + 28)
    case yyf_6 =>
      intro W hS
      go_simp
    try simp only [Act.put, List.setIfInBounds_toArray, List.set_cons_zero, List.set_cons_succ]
    refine wpAnyH_take (i := 7) (oi := { dst := some 36, op := Op.binOp BinOp.add 3 (Operand.tmp 33) (Operand.tmp 35) 3, type := 3, pos := "ref.go:73", after := #[{ on := 4, ground := Ground.data }, { on := 6, ground := Ground.data }], guard := none }) (v := ?vvf_7) rfl (by kernel_rfl) (by kernel_rfl) (by kernel_rfl) (fun _ _ _ h => h) (Or.inl ⟨by rfl, ?yyf_7⟩) hHeld ?_
    case vvf_7 => exact .int .i64 ((B : Int) + ((k : Int) + 28))
    case yyf_7 =>
      intro W hS
      go_simp
      try (rw [IntKind.wrap_i64] <;> omega)
    try simp only [Act.put, List.setIfInBounds_toArray, List.set_cons_zero, List.set_cons_succ]
    refine wpAnyH_take (i := 8) (oi := { dst := some 37, op := Op.move (Operand.tmp 0), type := 34, pos := "ref.go:73", after := #[], guard := none }) (v := ?vvf_8) rfl (by kernel_rfl) (by kernel_rfl) (by kernel_rfl) (fun _ _ _ h => h) (Or.inl ⟨by rfl, ?yyf_8⟩) hHeld ?_
    case vvf_8 => exact .pointer (some ⟨lp, 0, none⟩)
    case yyf_8 =>
      intro W hS
      go_simp
    try simp only [Act.put, List.setIfInBounds_toArray, List.set_cons_zero, List.set_cons_succ]
    refine wpAnyH_ready (rs := [9]) (by kernel_rfl) (by simp) (AllReadyH.cons (o := { dst := some 38, op := Op.call { callee := Callee.value (Operand.func 21), args := #[Operand.tmp 37], argTypes := #[34] }, type := 3, pos := "ref.go:73", after := #[{ on := 8, ground := Ground.data }], guard := none }) rfl (fun K hK => ?_) AllReadyH.nil)
    go_simp
    go_at_call 21
    refine HR6.out.mono ?_
    rintro e wx ⟨rfl, rfl⟩
    refine hK.out _ _ HS6.out (fun hHeld => ?_)
    clear hK K
    try simp only [Act.put, List.setIfInBounds_toArray, List.set_cons_zero, List.set_cons_succ]
    refine wpAnyH_take (i := 10) (oi := { dst := some 39, op := Op.binOp BinOp.gtr 3 (Operand.tmp 36) (Operand.tmp 38) 3, type := 4, pos := "ref.go:73", after := #[{ on := 7, ground := Ground.data }, { on := 9, ground := Ground.data }], guard := none }) (v := ?vvf_10) rfl (by kernel_rfl) (by kernel_rfl) (by kernel_rfl) (fun _ _ _ h => h) (Or.inl ⟨by rfl, ?yyf_10⟩) hHeld ?_
    case vvf_10 => exact .bool true
    case yyf_10 =>
      intro W hS
      go_simp
    try simp only [Act.put, List.setIfInBounds_toArray, List.set_cons_zero, List.set_cons_succ]
    refine wpAnyH_done (by kernel_rfl) ?_ _
    refine NoPanic.normal ?_
    go_wp2_with fail
    go_ret
    have hb := HDR.out
    have hrw := HRW.out
    refine ⟨rfl, ⟨_, by show Row w1.drew lp 37 (r.cells p _); exact hrw.1.below hb hrw.1.lt, own_kept hrw.2.1 (fun g hg => hb.block g (own_blk_lt hrw.2.1 hg)), fun g hg => .inl rfl, (hrw.2.2.1.below hb).less (fun g hg => ?_)⟩, Keeps.of_below hb (fun k hk hl => hk)⟩
    rcases hg with h | h
    · exact h
    · exact hrw.2.2.2.2.2.1 g h
  · rw [if_neg hroom]
    obtain ⟨TT, hTT⟩ : ∃ TT : (RL × DS) × Int, (if q.2 ≠ 0 then ((({ r with lost := q.2 } : RL), q.1), q.2) else ((({ r with texts := r.texts ++ [t], bytes := r.bytes ++ F } : RL), q.1), 0)) = TT := ⟨_, rfl⟩
    rw [hTT]
    have HTT := Lib.hid hTT
    clear hTT
    have hrI : (B : Int) + ((k : Int) + 28) ≤ (S : Int) := by omega
    obtain ⟨q1, hq1⟩ : ∃ q1, B / 128 = q1 := ⟨_, rfl⟩
    obtain ⟨q2, hq2⟩ : ∃ q2, q1 * 128 = q2 := ⟨_, rfl⟩
    obtain ⟨Z, hZ⟩ : ∃ Z, BT.drop q2 = Z := ⟨_, rfl⟩
    obtain ⟨ZF, hZF⟩ : ∃ ZF, Z ++ F = ZF := ⟨_, rfl⟩
    have hBl : BT.length = B := HEQ.out.2.2.2.2.2.2.1
    have hZl : Z.length ≤ B := by rw [← hZ, List.length_drop]; omega
    have hFl : F.length = k + 28 := by rw [← HEQ.out.2.2.2.2.1, frameL_length]; have := HEQ.out.2.2.2.2.2.2.2; omega
    have hcut : (tx BT).extract q2 B = tx Z := by rw [tx_cut BT q2 B (by omega) (by omega), List.take_of_length_le (by omega), hZ]
    have HADD : Hid (∀ W, (Op.stringOp .add (tx Z) (tx F)).run Tryz.prog W = .ok (.string (tx ZF)) W) := Lib.hid fun W => by rw [← hZF]; exact add_tx Z F (by omega) W
    have HADD2 : Hid (∀ W, (Op.stringOp .add (tx BT) (tx F)).run Tryz.prog W = .ok (.string (tx (BT ++ F))) W) := Lib.hid fun W => add_tx BT F (by omega) W
    have hqI : (B : Int) / 128 = (q1 : Int) := by omega
    have hqJ : 128 * (q1 : Int) = (q2 : Int) := by omega
    have hq2I : (q2 : Int) ≤ (B : Int) := by omega
    rw [hq1, hq2, hZ, hZF] at HPUTw
    clear hq1 hq2 hZ hZF hBl hZl hFl
    clear hroom
    go_enter Tryz.func17, Tryz.ntmps17
    go_wp2_with fail
    refine (HFR.out _).mono ?_
    rintro e w1 ⟨rfl, hb1⟩
    have HB1 := Lib.hid hb1
    clear hb1
    go_wp2_with fail
    have hdr : Below w.heap.size w w1.drew := below_drewK HB1.out 1
    have HS6 : Hid (Row w1.drew lp 37 [.pointer (some ⟨p, 0, none⟩), .int .u64 (num : Nat), .int .u64 (half : Nat), .slice av n cv, .string (tx BT), .int .i64 0]) := Lib.hid (by rw [← HRC.out]; exact HRW.out.1.below hdr HRW.out.1.lt)
    have HR6 : Hid _ := Lib.hid (HRM.out w1.drew (HRW.out.1.below hdr HRW.out.1.lt) (HRW.out.2.2.1.below hdr))
    have HDR := Lib.hid hdr
    clear hdr
    refine wp_region_noPanic ?_
    refine wp_region_held_drew (S := fun W => Row W lp 37 [.pointer (some ⟨p, 0, none⟩), .int .u64 (num : Nat), .int .u64 (half : Nat), .slice av n cv, .string (tx BT), .int .i64 0]) (by kernel_rfl) HS6.out (fun hHeld => ?_)
    refine wpAnyH_take (i := 0) (oi := { dst := some 29, op := Op.move (Operand.tmp 0), type := 34, pos := "ref.go:73", after := #[], guard := none }) (v := ?vvs_0) rfl (by kernel_rfl) (by kernel_rfl) (by kernel_rfl) (fun _ _ _ h => h) (Or.inl ⟨by rfl, ?yys_0⟩) hHeld ?_
    case vvs_0 => exact .pointer (some ⟨lp, 0, none⟩)
    case yys_0 =>
      intro W hS
      go_simp
    try simp only [Act.put, List.setIfInBounds_toArray, List.set_cons_zero, List.set_cons_succ]
    refine wpAnyH_take (i := 1) (oi := { dst := some 30, op := Op.nilCheck (Operand.tmp 29), type := 0, pos := "ref.go:73", after := #[{ on := 0, ground := Ground.data }], guard := none }) (v := ?vvs_1) rfl (by kernel_rfl) (by kernel_rfl) (by kernel_rfl) (fun _ _ _ h => h) (Or.inl ⟨by rfl, ?yys_1⟩) hHeld ?_
    case vvs_1 => exact .pointer (some ⟨lp, 0, none⟩)
    case yys_1 =>
      intro W hS
      go_simp
    try simp only [Act.put, List.setIfInBounds_toArray, List.set_cons_zero, List.set_cons_succ]
    refine wpAnyH_take (i := 2) (oi := { dst := some 31, op := Op.fieldAddr 37 (Operand.tmp 30) 4, type := 0, pos := "ref.go:73", after := #[{ on := 1, ground := Ground.data }], guard := none }) (v := ?vvs_2) rfl (by kernel_rfl) (by kernel_rfl) (by kernel_rfl) (fun _ _ _ h => h) (Or.inl ⟨by rfl, ?yys_2⟩) hHeld ?_
    case vvs_2 => exact .pointer (some ⟨lp, 4, none⟩)
    case yys_2 =>
      intro W hS
      go_simp
    try simp only [Act.put, List.setIfInBounds_toArray, List.set_cons_zero, List.set_cons_succ]
    refine wpAnyH_take (i := 3) (oi := { dst := some 32, op := Op.load 9 (Operand.tmp 31), type := 9, pos := "ref.go:73", after := #[{ on := 2, ground := Ground.data }], guard := none }) (v := ?vvs_3) rfl (by kernel_rfl) (by kernel_rfl) (by kernel_rfl) (fun _ _ _ h => h) (Or.inl ⟨by rfl, ?yys_3⟩) hHeld ?_
    case vvs_3 => exact .string (tx BT)
    case yys_3 =>
      intro W hS
      have q0 := Row.cell hS 4
      simp only [List.getElem?_cons_zero, List.getElem?_cons_succ] at q0
      go_simp
    try simp only [Act.put, List.setIfInBounds_toArray, List.set_cons_zero, List.set_cons_succ]
    refine wpAnyH_take (i := 4) (oi := { dst := some 33, op := Op.call { callee := Callee.builtin Builtin.len, args := #[Operand.tmp 32], argTypes := #[9] }, type := 3, pos := "ref.go:73", after := #[{ on := 3, ground := Ground.data }], guard := none }) (v := ?vvs_4) rfl (by kernel_rfl) (by kernel_rfl) (by kernel_rfl) (fun _ _ _ h => h) (Or.inl ⟨by rfl, ?yys_4⟩) hHeld ?_
    case vvs_4 => exact .int .i64 (B : Nat)
    case yys_4 =>
      intro W hS
      go_simp
    try simp only [Act.put, List.setIfInBounds_toArray, List.set_cons_zero, List.set_cons_succ]
    refine wpAnyH_take (i := 5) (oi := { dst := some 34, op := Op.move (Operand.tmp 5), type := 9, pos := "ref.go:73", after := #[], guard := none }) (v := ?vvs_5) rfl (by kernel_rfl) (by kernel_rfl) (by kernel_rfl) (fun _ _ _ h => h) (Or.inl ⟨by rfl, ?yys_5⟩) hHeld ?_
    case vvs_5 => exact .string (tx F)
    case yys_5 =>
      intro W hS
      go_simp
    try simp only [Act.put, List.setIfInBounds_toArray, List.set_cons_zero, List.set_cons_succ]
    refine wpAnyH_take (i := 6) (oi := { dst := some 35, op := Op.call { callee := Callee.builtin Builtin.len, args := #[Operand.tmp 34], argTypes := #[9] }, type := 3, pos := "ref.go:73", after := #[{ on := 5, ground := Ground.data }], guard := none }) (v := ?vvs_6) rfl (by kernel_rfl) (by kernel_rfl) (by kernel_rfl) (fun _ _ _ h => h) (Or.inl ⟨by rfl, ?yys_6⟩) hHeld ?_
    case vvs_6 => exact .int .i64 ((k : Int) + 28)
    case yys_6 =>
      intro W hS
      go_simp
    try simp only [Act.put, List.setIfInBounds_toArray, List.set_cons_zero, List.set_cons_succ]
    refine wpAnyH_take (i := 7) (oi := { dst := some 36, op := Op.binOp BinOp.add 3 (Operand.tmp 33) (Operand.tmp 35) 3, type := 3, pos := "ref.go:73", after := #[{ on := 4, ground := Ground.data }, { on := 6, ground := Ground.data }], guard := none }) (v := ?vvs_7) rfl (by kernel_rfl) (by kernel_rfl) (by kernel_rfl) (fun _ _ _ h => h) (Or.inl ⟨by rfl, ?yys_7⟩) hHeld ?_
    case vvs_7 => exact .int .i64 ((B : Int) + ((k : Int) + 28))
    case yys_7 =>
      intro W hS
      go_simp
      try (rw [IntKind.wrap_i64] <;> omega)
    try simp only [Act.put, List.setIfInBounds_toArray, List.set_cons_zero, List.set_cons_succ]
    refine wpAnyH_take (i := 8) (oi := { dst := some 37, op := Op.move (Operand.tmp 0), type := 34, pos := "ref.go:73", after := #[], guard := none }) (v := ?vvs_8) rfl (by kernel_rfl) (by kernel_rfl) (by kernel_rfl) (fun _ _ _ h => h) (Or.inl ⟨by rfl, ?yys_8⟩) hHeld ?_
    case vvs_8 => exact .pointer (some ⟨lp, 0, none⟩)
    case yys_8 =>
      intro W hS
      go_simp
    try simp only [Act.put, List.setIfInBounds_toArray, List.set_cons_zero, List.set_cons_succ]
    refine wpAnyH_ready (rs := [9]) (by kernel_rfl) (by simp) (AllReadyH.cons (o := { dst := some 38, op := Op.call { callee := Callee.value (Operand.func 21), args := #[Operand.tmp 37], argTypes := #[34] }, type := 3, pos := "ref.go:73", after := #[{ on := 8, ground := Ground.data }], guard := none }) rfl (fun K hK => ?_) AllReadyH.nil)
    go_simp
    go_at_call 21
    refine HR6.out.mono ?_
    rintro e wx ⟨rfl, rfl⟩
    refine hK.out _ _ HS6.out (fun hHeld => ?_)
    clear hK K
    try simp only [Act.put, List.setIfInBounds_toArray, List.set_cons_zero, List.set_cons_succ]
    refine wpAnyH_take (i := 10) (oi := { dst := some 39, op := Op.binOp BinOp.gtr 3 (Operand.tmp 36) (Operand.tmp 38) 3, type := 4, pos := "ref.go:73", after := #[{ on := 7, ground := Ground.data }, { on := 9, ground := Ground.data }], guard := none }) (v := ?vvs_10) rfl (by kernel_rfl) (by kernel_rfl) (by kernel_rfl) (fun _ _ _ h => h) (Or.inl ⟨by rfl, ?yys_10⟩) hHeld ?_
    case vvs_10 => exact .bool false
    case yys_10 =>
      intro W hS
      go_simp
    try simp only [Act.put, List.setIfInBounds_toArray, List.set_cons_zero, List.set_cons_succ]
    refine wpAnyH_done (by kernel_rfl) ?_ _
    refine NoPanic.normal ?_
    have c4 := HS6.out.cell 4
    simp only [List.getElem?_cons_zero, List.getElem?_cons_succ] at c4
    go_wp2_with fail
    have hdr : Below w.heap.size w w1.drew.drew := below_drewK HDR.out 1
    have HS9 : Hid (Row w1.drew.drew lp 37 [.pointer (some ⟨p, 0, none⟩), .int .u64 (num : Nat), .int .u64 (half : Nat), .slice av n cv, .string (tx BT), .int .i64 0]) := Lib.hid HS6.out.drew
    have HPUT : Hid _ := Lib.hid (HPUTw.out w1.drew.drew hdr)
    have HDR9 := Lib.hid hdr
    clear hdr c4
    refine wp_region_noPanic ?_
    refine wp_region_held_drew (S := fun W => Row W lp 37 [.pointer (some ⟨p, 0, none⟩), .int .u64 (num : Nat), .int .u64 (half : Nat), .slice av n cv, .string (tx BT), .int .i64 0]) (by kernel_rfl) HS9.out (fun hHeld => ?_)
    refine wpAnyH_take (i := 0) (oi := { dst := some 46, op := Op.move (Operand.tmp 0), type := 34, pos := "ref.go:77", after := #[], guard := none }) (v := ?vvn_0) rfl (by kernel_rfl) (by kernel_rfl) (by kernel_rfl) (fun _ _ _ h => h) (Or.inl ⟨by rfl, ?yyn_0⟩) hHeld ?_
    case vvn_0 => exact .pointer (some ⟨lp, 0, none⟩)
    case yyn_0 =>
      intro W hS
      go_simp
    try simp only [Act.put, List.setIfInBounds_toArray, List.set_cons_zero, List.set_cons_succ]
    refine wpAnyH_take (i := 1) (oi := { dst := some 47, op := Op.move (Operand.tmp 0), type := 34, pos := "ref.go:77", after := #[], guard := none }) (v := ?vvn_1) rfl (by kernel_rfl) (by kernel_rfl) (by kernel_rfl) (fun _ _ _ h => h) (Or.inl ⟨by rfl, ?yyn_1⟩) hHeld ?_
    case vvn_1 => exact .pointer (some ⟨lp, 0, none⟩)
    case yyn_1 =>
      intro W hS
      go_simp
    try simp only [Act.put, List.setIfInBounds_toArray, List.set_cons_zero, List.set_cons_succ]
    refine wpAnyH_take (i := 2) (oi := { dst := some 48, op := Op.nilCheck (Operand.tmp 47), type := 0, pos := "ref.go:77", after := #[{ on := 1, ground := Ground.data }], guard := none }) (v := ?vvn_2) rfl (by kernel_rfl) (by kernel_rfl) (by kernel_rfl) (fun _ _ _ h => h) (Or.inl ⟨by rfl, ?yyn_2⟩) hHeld ?_
    case vvn_2 => exact .pointer (some ⟨lp, 0, none⟩)
    case yyn_2 =>
      intro W hS
      go_simp
    try simp only [Act.put, List.setIfInBounds_toArray, List.set_cons_zero, List.set_cons_succ]
    refine wpAnyH_take (i := 3) (oi := { dst := some 49, op := Op.fieldAddr 37 (Operand.tmp 48) 2, type := 0, pos := "ref.go:77", after := #[{ on := 2, ground := Ground.data }], guard := none }) (v := ?vvn_3) rfl (by kernel_rfl) (by kernel_rfl) (by kernel_rfl) (fun _ _ _ h => h) (Or.inl ⟨by rfl, ?yyn_3⟩) hHeld ?_
    case vvn_3 => exact .pointer (some ⟨lp, 2, none⟩)
    case yyn_3 =>
      intro W hS
      go_simp
    try simp only [Act.put, List.setIfInBounds_toArray, List.set_cons_zero, List.set_cons_succ]
    refine wpAnyH_take (i := 4) (oi := { dst := some 50, op := Op.load 35 (Operand.tmp 49), type := 35, pos := "ref.go:77", after := #[{ on := 3, ground := Ground.data }], guard := none }) (v := ?vvn_4) rfl (by kernel_rfl) (by kernel_rfl) (by kernel_rfl) (fun _ _ _ h => h) (Or.inl ⟨by rfl, ?yyn_4⟩) hHeld ?_
    case vvn_4 => exact .int .u64 (half : Nat)
    case yyn_4 =>
      intro W hS
      have q0 := Row.cell hS 2
      simp only [List.getElem?_cons_zero, List.getElem?_cons_succ] at q0
      go_simp
    try simp only [Act.put, List.setIfInBounds_toArray, List.set_cons_zero, List.set_cons_succ]
    refine wpAnyH_take (i := 5) (oi := { dst := some 51, op := Op.move (Operand.tmp 6), type := 3, pos := "ref.go:77", after := #[], guard := none }) (v := ?vvn_5) rfl (by kernel_rfl) (by kernel_rfl) (by kernel_rfl) (fun _ _ _ h => h) (Or.inl ⟨by rfl, ?yyn_5⟩) hHeld ?_
    case vvn_5 => exact .int .i64 (q1 : Nat)
    case yyn_5 =>
      intro W hS
      go_simp
    try simp only [Act.put, List.setIfInBounds_toArray, List.set_cons_zero, List.set_cons_succ]
    refine wpAnyH_take (i := 6) (oi := { dst := some 52, op := Op.move (Operand.tmp 0), type := 34, pos := "ref.go:77", after := #[], guard := none }) (v := ?vvn_6) rfl (by kernel_rfl) (by kernel_rfl) (by kernel_rfl) (fun _ _ _ h => h) (Or.inl ⟨by rfl, ?yyn_6⟩) hHeld ?_
    case vvn_6 => exact .pointer (some ⟨lp, 0, none⟩)
    case yyn_6 =>
      intro W hS
      go_simp
    try simp only [Act.put, List.setIfInBounds_toArray, List.set_cons_zero, List.set_cons_succ]
    refine wpAnyH_take (i := 7) (oi := { dst := some 53, op := Op.nilCheck (Operand.tmp 52), type := 0, pos := "ref.go:77", after := #[{ on := 6, ground := Ground.data }], guard := none }) (v := ?vvn_7) rfl (by kernel_rfl) (by kernel_rfl) (by kernel_rfl) (fun _ _ _ h => h) (Or.inl ⟨by rfl, ?yyn_7⟩) hHeld ?_
    case vvn_7 => exact .pointer (some ⟨lp, 0, none⟩)
    case yyn_7 =>
      intro W hS
      go_simp
    try simp only [Act.put, List.setIfInBounds_toArray, List.set_cons_zero, List.set_cons_succ]
    refine wpAnyH_take (i := 8) (oi := { dst := some 54, op := Op.fieldAddr 37 (Operand.tmp 53) 4, type := 0, pos := "ref.go:77", after := #[{ on := 7, ground := Ground.data }], guard := none }) (v := ?vvn_8) rfl (by kernel_rfl) (by kernel_rfl) (by kernel_rfl) (fun _ _ _ h => h) (Or.inl ⟨by rfl, ?yyn_8⟩) hHeld ?_
    case vvn_8 => exact .pointer (some ⟨lp, 4, none⟩)
    case yyn_8 =>
      intro W hS
      go_simp
    try simp only [Act.put, List.setIfInBounds_toArray, List.set_cons_zero, List.set_cons_succ]
    refine wpAnyH_take (i := 9) (oi := { dst := some 55, op := Op.load 9 (Operand.tmp 54), type := 9, pos := "ref.go:77", after := #[{ on := 8, ground := Ground.data }], guard := none }) (v := ?vvn_9) rfl (by kernel_rfl) (by kernel_rfl) (by kernel_rfl) (fun _ _ _ h => h) (Or.inl ⟨by rfl, ?yyn_9⟩) hHeld ?_
    case vvn_9 => exact .string (tx BT)
    case yyn_9 =>
      intro W hS
      have q0 := Row.cell hS 4
      simp only [List.getElem?_cons_zero, List.getElem?_cons_succ] at q0
      go_simp
    try simp only [Act.put, List.setIfInBounds_toArray, List.set_cons_zero, List.set_cons_succ]
    refine wpAnyH_take (i := 10) (oi := { dst := some 56, op := Op.move (Operand.tmp 6), type := 3, pos := "ref.go:77", after := #[], guard := none }) (v := ?vvn_10) rfl (by kernel_rfl) (by kernel_rfl) (by kernel_rfl) (fun _ _ _ h => h) (Or.inl ⟨by rfl, ?yyn_10⟩) hHeld ?_
    case vvn_10 => exact .int .i64 (q1 : Nat)
    case yyn_10 =>
      intro W hS
      go_simp
    try simp only [Act.put, List.setIfInBounds_toArray, List.set_cons_zero, List.set_cons_succ]
    refine wpAnyH_take (i := 11) (oi := { dst := some 57, op := Op.binOp BinOp.mul 3 (Operand.const (Value.int IntKind.i64 128)) (Operand.tmp 56) 3, type := 3, pos := "ref.go:77", after := #[{ on := 10, ground := Ground.data }], guard := none }) (v := ?vvn_11) rfl (by kernel_rfl) (by kernel_rfl) (by kernel_rfl) (fun _ _ _ h => h) (Or.inl ⟨by rfl, ?yyn_11⟩) hHeld ?_
    case vvn_11 => exact .int .i64 (q2 : Nat)
    case yyn_11 =>
      intro W hS
      go_simp
      try (rw [IntKind.wrap_i64] <;> omega)
    try simp only [Act.put, List.setIfInBounds_toArray, List.set_cons_zero, List.set_cons_succ]
    refine wpAnyH_take (i := 12) (oi := { dst := some 58, op := Op.slice 9 (Operand.tmp 55) (some (Operand.tmp 57)) none none, type := 9, pos := "ref.go:77", after := #[{ on := 9, ground := Ground.data }, { on := 11, ground := Ground.data }], guard := none }) (v := ?vvn_12) rfl (by kernel_rfl) (by kernel_rfl) (by kernel_rfl) (fun _ _ _ h => h) (Or.inl ⟨by rfl, ?yyn_12⟩) hHeld ?_
    case vvn_12 => exact .string (tx Z)
    case yyn_12 =>
      intro W hS
      go_simp
    try simp only [Act.put, List.setIfInBounds_toArray, List.set_cons_zero, List.set_cons_succ]
    refine wpAnyH_take (i := 13) (oi := { dst := some 59, op := Op.move (Operand.tmp 5), type := 9, pos := "ref.go:77", after := #[], guard := none }) (v := ?vvn_13) rfl (by kernel_rfl) (by kernel_rfl) (by kernel_rfl) (fun _ _ _ h => h) (Or.inl ⟨by rfl, ?yyn_13⟩) hHeld ?_
    case vvn_13 => exact .string (tx F)
    case yyn_13 =>
      intro W hS
      go_simp
    try simp only [Act.put, List.setIfInBounds_toArray, List.set_cons_zero, List.set_cons_succ]
    refine wpAnyH_take (i := 14) (oi := { dst := some 60, op := Op.binOp BinOp.add 9 (Operand.tmp 58) (Operand.tmp 59) 9, type := 9, pos := "ref.go:77", after := #[{ on := 12, ground := Ground.data }, { on := 13, ground := Ground.data }], guard := none }) (v := ?vvn_14) rfl (by kernel_rfl) (by kernel_rfl) (by kernel_rfl) (fun _ _ _ h => h) (Or.inl ⟨by rfl, ?yyn_14⟩) hHeld ?_
    case vvn_14 => exact .string (tx ZF)
    case yyn_14 =>
      intro W hS
      have q0 := HADD.out W
      go_simp
    try simp only [Act.put, List.setIfInBounds_toArray, List.set_cons_zero, List.set_cons_succ]
    refine wpAnyH_ready (rs := [15]) (by kernel_rfl) (by simp) (AllReadyH.cons (o := { dst := some 61, op := Op.call { callee := Callee.value (Operand.func 48), args := #[Operand.tmp 46, Operand.tmp 50, Operand.tmp 51, Operand.tmp 60], argTypes := #[34, 35, 3, 9] }, type := 3, pos := "ref.go:77", after := #[{ on := 0, ground := Ground.data }, { on := 4, ground := Ground.data }, { on := 5, ground := Ground.data }, { on := 14, ground := Ground.data }], guard := none }) rfl (fun K hK => ?_) AllReadyH.nil)
    go_simp
    go_at_call 48
    refine HPUT.out.mono ?_
    rintro e w5 ⟨rfl, hd5, hk5⟩
    have s5 : Row w5 lp 37 [.pointer (some ⟨p, 0, none⟩), .int .u64 (num : Nat), .int .u64 (half : Nat), .slice av n cv, .string (tx BT), .int .i64 0] := (hk5.block lp HS9.out.lt HRW.out.2.2.2.2.1).trans HS9.out
    have H5 := Lib.hid (And.intro hd5 (And.intro s5 ((Keeps.of_below (L := L) HDR9.out (fun q h _ => h)).trans hk5)))
    refine hK.out _ _ s5 (fun hHeld => ?_)
    clear hK K hd5 hk5 s5
    try simp only [Act.put, List.setIfInBounds_toArray, List.set_cons_zero, List.set_cons_succ]
    refine wpAnyH_ready (rs := [16]) (by kernel_rfl) (by simp) (AllReadyH.cons (o := { dst := some 7, op := Op.assign (Operand.tmp 61), type := 3, pos := "ref.go:77", after := #[{ on := 15, ground := Ground.data }, { on := 15, ground := Ground.chain }, { on := 0, ground := Ground.phase }, { on := 1, ground := Ground.phase }, { on := 2, ground := Ground.phase }, { on := 3, ground := Ground.phase }, { on := 4, ground := Ground.phase }, { on := 5, ground := Ground.phase }, { on := 6, ground := Ground.phase }, { on := 7, ground := Ground.phase }, { on := 8, ground := Ground.phase }, { on := 9, ground := Ground.phase }, { on := 10, ground := Ground.phase }, { on := 11, ground := Ground.phase }, { on := 12, ground := Ground.phase }, { on := 13, ground := Ground.phase }, { on := 14, ground := Ground.phase }, { on := 15, ground := Ground.phase }], guard := none }) rfl (fun K hK => ?_) AllReadyH.nil)
    go_simp
    refine hK.out _ _ H5.out.2.1 (fun hHeld => ?_)
    clear hK K
    try simp only [Act.put, List.setIfInBounds_toArray, List.set_cons_zero, List.set_cons_succ]
    refine wpAnyH_done (by kernel_rfl) ?_ _
    refine NoPanic.normal ?_
    have r5 := H5.out.2.1
    have HFIN : Hid (∀ W', Keeps (fun q => q ≠ lp) w5 W' → RefIs L W' p q.1 ∧ Keeps (fun q => L q ∧ q ≠ lp) w W') := Lib.hid fun W' hk =>
      ⟨H5.out.1.keeps hk (fun q _ h e => h (e ▸ HRW.out.2.2.2.2.1)), (H5.out.2.2.mono (fun q h => h.1)).trans (hk.mono (fun q h => h.2))⟩
    by_cases hRE0 : q.2 = 0
    · have hTT := HTT.out
      rw [if_neg (by simp [hRE0])] at hTT
      have HT2 := Lib.hid hTT
      clear hTT
      have hqb : ((q.2 : Int) != 0) = false := by simp [hRE0]
      have c4 := r5.cell 4
      have f4 := r5.frozen 4
      simp only [List.getElem?_cons_zero, List.getElem?_cons_succ] at c4
      have h2 := HADD2.out
      clear hRE0
      obtain ⟨VB, hVB⟩ : ∃ VB, Value.string (tx (BT ++ F)) = VB := ⟨_, rfl⟩
      have r6 : Row (w5.setCell ⟨lp, 4, none⟩ (.string (tx (BT ++ F)))) lp 37 (List.set [.pointer (some ⟨p, 0, none⟩), .int .u64 (num : Nat), .int .u64 (half : Nat), .slice av n cv, .string (tx BT), .int .i64 0] 4 (.string (tx (BT ++ F)))) := r5.set 4 _
      have c3 := r6.cell 3
      simp only [List.set_cons_succ, List.set_cons_zero, List.getElem?_cons_zero, List.getElem?_cons_succ] at c3
      have hfar : ∀ (W : World) (i : Nat) (v : Value) (q : Nat), q ≠ lp → (W.setCell ⟨lp, i, none⟩ v).heap[q]? = W.heap[q]? := fun W i v q h => Below.heap_setCell W ⟨lp, i, none⟩ v q h
      have hK6 : Keeps (fun q => q ≠ lp) w5 (w5.setCell ⟨lp, 4, none⟩ (.string (tx (BT ++ F)))) := (Keeps.refl _ _).setCell (p := ⟨lp, 4, none⟩) (.inl (fun h => h rfl)) _
      have hs6 : (w5.setCell ⟨lp, 4, none⟩ (.string (tx (BT ++ F)))).heap.size = w5.heap.size := by simp
      obtain ⟨i0, hi, hz0, hz1, hz2⟩ := info_parts str_infoR
      have hlp5 : lp < w5.heap.size := r5.lt
      have hown6 : (w5.setCell ⟨lp, 4, none⟩ (.string (tx (BT ++ F)))).ownsRow 0 9 1 (.slice av r.texts.length cv) r.texts.length r.vals := own_kept HRW.out.2.1 (fun g hg => by
        have hne : g ≠ lp := fun e => own_ne HRW.out.2.1 HRW.out.1 (by decide) (by rw [hg, e])
        rw [hfar _ _ _ _ hne]
        exact H5.out.2.2.block g (own_blk_lt HRW.out.2.1 hg) (HRW.out.2.2.2.2.2.1 g hg))
      have H6 := Lib.hid (And.intro r6 (And.intro hK6 (And.intro hs6 (And.intro hlp5 hown6))))
      have hvl : r.vals.length = n := by unfold RL.vals; rw [List.length_map]; exact HEQ.out.2.2.2.2.2.1
      have HV : Hid (r.vals.length = n ∧ ∀ u ∈ r.vals, u.oneCell' = true) := Lib.hid ⟨hvl, fun u hu => by
        unfold RL.vals at hu
        obtain ⟨y, _, rfl⟩ := List.mem_map.1 hu
        rfl⟩
      obtain ⟨C6, hC6⟩ : ∃ C6 : List Value, List.set ([.pointer (some ⟨p, 0, none⟩), .int .u64 (num : Nat), .int .u64 (half : Nat), .slice av n cv, .string (tx BT), .int .i64 0] : List Value) 4 (.string (tx (BT ++ F))) = C6 := ⟨_, rfl⟩
      have HC63 : Hid (C6[3]? = some (.slice av n cv)) := Lib.hid (by rw [← hC6]; rfl)
      have HC6 := Lib.hid hC6
      rw [hC6] at H6
      clear hC6
      clear hVB VB r6 hfar hK6 hown6 hvl r5
      rcases (H6.out.2.2.2.2).2 with ⟨hav, hn0⟩ | ⟨g0, cap0, cur0, hav, _, hg0, hnc, hcm, hcs, hct⟩
      · have hn0' : r.texts.length = n := HEQ.out.2.2.2.2.2.1
        injection hav with ha1 _ ha3
        obtain rfl : n = 0 := by omega
        subst ha1 ha3
        have hvn : r.vals = [] := List.length_eq_zero_iff.1 HV.out.1
        have HVN := Lib.hid hvn
        clear hvn hn0 hn0'
        go_wp2_with (first
          | (at_builtin; refine wpList_append_own _ rfl (.tmp 85) (.tmp 87) 31 rfl w5.heap.size 9 i0 (.string ⟨#[]⟩) 1 16 Tryz.underlying31 hi hz0 hz1 hz2 rfl (by decide) (.slice none 0 0) 0 [] rfl (World.ownsRow_nil _ _ _ _) ⟨w5.heap.size, 0, none⟩ 1 1 [.string T] rfl rfl (World.news_of_block (cs := #[.string T]) (t := 9) (fr := (0, 0)) (by have h := heap_alloc_new (w5.setCell ⟨lp, 4, none⟩ (.string (tx (BT ++ F)))) (.cells #[.string T] 9); rw [hs6] at h; exact h)) (by simp [Value.oneCell']) (by unfold maxLen; omega) (by omega) (by rw [World.size_alloc, hs6]; omega) ?_; intro v9 w9 hown9 hg9 hnil9; obtain ⟨a9, c9, rfl⟩ := own_slice hown9; have HR9 : Hid (Row w9 lp 37 C6) := Lib.hid ((hg9.block lp (by rw [World.size_alloc, hs6]; omega) (by simp [Value.ownBlock])).trans (Row.alloc H6.out.1 _)); have hc9 := (HR9.out.cell 3).trans HC63.out; have hf9 := HR9.out.frozen 3; have HO9 := Lib.hid hown9; have HG9 := Lib.hid hg9; clear hown9 hg9 hnil9)
          | fail)
        go_ret
        rw [← HT2.out]
        have hB9 : Below w5.heap.size (w5.setCell ⟨lp, 4, none⟩ (.string (tx (BT ++ F)))) w9 := ((Below.refl w5.heap.size (w5.setCell ⟨lp, 4, none⟩ (.string (tx (BT ++ F))))).alloc (by rw [hs6]; exact Nat.le_refl _) (.cells #[.string T] 9)).grown HG9.out (by rw [World.size_alloc, hs6]; omega) (fun i e => by simp [Value.ownBlock] at e)
        have hK9 : Keeps (fun q => q ≠ lp) w5 w9 := H6.out.2.1.trans (Keeps.of_below hB9 (fun q hq _ => by rw [hs6] at hq; exact hq))
        have h10 := HFIN.out _ (hK9.setCell (p := ⟨lp, 3, none⟩) (.inl (fun h => h rfl)) (.slice a9 (0 + 1) c9))
        have r10 := HR9.out.set 3 (.slice a9 (0 + 1) c9)
        have ho9 := HO9.out
        have hlt9 := fun g hg => (ho9.lt g hg).1
        have hsz9 : w.heap.size ≤ w5.heap.size := H5.out.2.2.size
        have e9 : RL.cells p (.slice a9 (0 + 1) c9) { r with texts := r.texts ++ [t], bytes := r.bytes ++ F } = List.set C6 3 (.slice a9 (0 + 1) c9) := by rw [← HC6.out]; unfold RL.cells; simp only [HEQ.out.1, HEQ.out.2.1, HEQ.out.2.2.1, HRW.out.2.2.2.2.2.2]; rfl
        refine ⟨rfl, ⟨.slice a9 (0 + 1) c9, by rw [e9]; exact r10, ?_, fun g hg => .inr (Nat.le_trans hsz9 (hlt9 g hg)), ?_⟩, h10.2⟩
        · have ho : w9.ownsRow 0 9 1 (.slice a9 (0 + 1) c9) (r.texts ++ [t]).length (RL.vals { r with texts := r.texts ++ [t], bytes := r.bytes ++ F }) := by
            have h := ho9
            have e1 : RL.vals { r with texts := r.texts ++ [t], bytes := r.bytes ++ F } = [] ++ [.string T] := by
              have hvn := HVN.out
              unfold RL.vals at hvn ⊢
              rw [List.map_append, hvn, ← HEQ.out.2.2.2.1]
              rfl
            rw [e1, List.length_append, HEQ.out.2.2.2.2.2.1, List.length_singleton]
            refine ⟨h.1, ?_⟩
            rcases h.2 with h | ⟨g, cp, cu, h1, h2, h3⟩
            · exact .inl h
            · exact .inr ⟨g, cp, cu, h1, Nat.zero_le _, h3⟩
          exact own_kept ho (fun g hg => Below.heap_setCell w9 ⟨lp, 3, none⟩ _ g (fun e => by have h1 := hlt9 g hg; have h2 : g = lp := e; omega))
        · refine RefIs.keeps (M := fun q => q ≠ lp) (H5.out.1.more (fun g hg => ?_)) (hK9.setCell (p := ⟨lp, 3, none⟩) (.inl (fun h => h rfl)) _) (fun q _ h e => h (.inl (e ▸ HRW.out.2.2.2.2.1)))
          rcases hg with h | h
          · exact .inl h
          · exact .inr (hlt9 g h)
      · injection hav with ha1 _ ha3
        subst ha1 ha3
        have hn0 : r.texts.length = n := HEQ.out.2.2.2.2.2.1
        rw [hn0] at hct hnc
        have hnews : ∀ j u, r.vals[j]? = some u → (w5.setCell ⟨lp, 4, none⟩ (.string (tx (BT ++ F)))).cell? ((⟨g0, 0, none⟩ : Addr).add j) = some u := fun j u hu => World.news_of_block hg0 j u (by
          rw [← hct, List.getElem?_take] at hu
          split at hu
          · exact hu
          · cases hu)
        have HNW := Lib.hid hnews
        clear hct hnc hcm hcs hg0 hnews hn0
        go_wp2_with (first
          | (at_builtin; refine wpList_append_own _ rfl (.tmp 78) (.tmp 82) 31 rfl w5.heap.size 9 i0 (.string ⟨#[]⟩) 1 16 Tryz.underlying31 hi hz0 hz1 hz2 rfl (by decide) (.slice none 0 0) 0 [] rfl (World.ownsRow_nil _ _ _ _) ⟨g0, 0, none⟩ n cv r.vals rfl (by rw [HV.out.1]; omega) HNW.out HV.out.2 (by unfold maxLen; omega) (by omega) (by rw [hs6]; exact Nat.le_refl _) ?_; intro v8 w8 hown8 hg8 hnil8; have HO8 := Lib.hid hown8; have HG8 := Lib.hid hg8; have hs8 : w5.heap.size ≤ w8.heap.size := (by have := hg8.size; rw [hs6] at this; exact this); have HR8 : Hid (Row w8 lp 37 C6) := Lib.hid ((hg8.block lp (by rw [hs6]; exact hlp5) (by simp [Value.ownBlock])).trans H6.out.1); clear hown8 hg8 hnil8)
          | (at_builtin; refine wpList_append_own _ rfl (.tmp 85) (.tmp 87) 31 rfl w5.heap.size 9 i0 (.string ⟨#[]⟩) 1 16 Tryz.underlying31 hi hz0 hz1 hz2 rfl (by decide) v8 _ _ rfl (HO8.out.alloc _) ⟨w8.heap.size, 0, none⟩ 1 1 [.string T] rfl rfl (World.news_of_block (cs := #[.string T]) (t := 9) (fr := (0, 0)) (heap_alloc_new w8 _)) (by simp [Value.oneCell']) (by unfold maxLen; omega) (by omega) (by simp; omega) ?_; intro v9 w9 hown9 hg9 hnil9; obtain ⟨a9, c9, rfl⟩ := own_slice hown9; have HR9 : Hid (Row w9 lp 37 C6) := Lib.hid ((hg9.block lp (by rw [World.size_alloc]; omega) (fun e => by have := (HO8.out.lt lp e.symm).1; omega)).trans (Row.alloc HR8.out _)); have hc9 := (HR9.out.cell 3).trans HC63.out; have hf9 := HR9.out.frozen 3; have HO9 := Lib.hid hown9; have HG9 := Lib.hid hg9; clear hown9 hg9 hnil9)
          | fail)
        go_ret
        rw [← HT2.out]
        have hB8 : Below w5.heap.size (w5.setCell ⟨lp, 4, none⟩ (.string (tx (BT ++ F)))) w8 := by
          have h := (Below.refl w5.heap.size (w5.setCell ⟨lp, 4, none⟩ (.string (tx (BT ++ F))))).grown HG8.out (by rw [hs6]; exact Nat.le_refl _) (fun i e => by simp [Value.ownBlock] at e)
          exact h
        have hB9 : Below w5.heap.size (w5.setCell ⟨lp, 4, none⟩ (.string (tx (BT ++ F)))) w9 := (hB8.alloc hs8 _).grown HG9.out (by rw [World.size_alloc]; omega) (fun i e => (HO8.out.lt i e).1)
        have hK9 : Keeps (fun q => q ≠ lp) w5 w9 := H6.out.2.1.trans (Keeps.of_below hB9 (fun q hq _ => by rw [hs6] at hq; exact hq))
        have h10 := HFIN.out _ (hK9.setCell (p := ⟨lp, 3, none⟩) (.inl (fun h => h rfl)) (.slice a9 (n + 1) c9))
        have r10 := HR9.out.set 3 (.slice a9 (n + 1) c9)
        have ho9 := HO9.out
        rw [Nat.zero_add] at ho9
        have hlt9 := fun g hg => (ho9.lt g hg).1
        have hsz9 : w.heap.size ≤ w5.heap.size := H5.out.2.2.size
        have e9 : RL.cells p (.slice a9 (n + 1) c9) { r with texts := r.texts ++ [t], bytes := r.bytes ++ F } = List.set C6 3 (.slice a9 (n + 1) c9) := by rw [← HC6.out]; unfold RL.cells; simp only [HEQ.out.1, HEQ.out.2.1, HEQ.out.2.2.1, HRW.out.2.2.2.2.2.2]; rfl
        refine ⟨rfl, ⟨.slice a9 (n + 1) c9, by rw [e9]; exact r10, ?_, fun g hg => .inr (Nat.le_trans hsz9 (hlt9 g hg)), ?_⟩, h10.2⟩
        · have ho : w9.ownsRow 0 9 1 (.slice a9 (n + 1) c9) (r.texts ++ [t]).length (RL.vals { r with texts := r.texts ++ [t], bytes := r.bytes ++ F }) := by
            have h := ho9
            have e1 : RL.vals { r with texts := r.texts ++ [t], bytes := r.bytes ++ F } = [] ++ r.vals ++ [.string T] := by
              unfold RL.vals
              rw [List.map_append, ← HEQ.out.2.2.2.1]
              rfl
            rw [e1, List.length_append, HEQ.out.2.2.2.2.2.1, List.length_singleton]
            refine ⟨h.1, ?_⟩
            rcases h.2 with h | ⟨g, cp, cu, h1, h2, h3⟩
            · exact .inl h
            · exact .inr ⟨g, cp, cu, h1, Nat.zero_le _, h3⟩
          exact own_kept ho (fun g hg => Below.heap_setCell w9 ⟨lp, 3, none⟩ _ g (fun e => by have h1 := hlt9 g hg; have h2 : g = lp := e; omega))
        · refine RefIs.keeps (M := fun q => q ≠ lp) (H5.out.1.more (fun g hg => ?_)) (hK9.setCell (p := ⟨lp, 3, none⟩) (.inl (fun h => h rfl)) _) (fun q _ h e => h (.inl (e ▸ HRW.out.2.2.2.2.1)))
          rcases hg with h | h
          · exact .inl h
          · exact .inr (hlt9 g h)
    · have hTT := HTT.out
      rw [if_pos hRE0] at hTT
      have HT2 := Lib.hid hTT
      clear hTT
      have c5 := r5.cell 5
      have f5 := r5.frozen 5
      simp only [List.getElem?_cons_zero, List.getElem?_cons_succ] at c5
      have hqb : ((q.2 : Int) != 0) = true := by simpa using hRE0
      clear hRE0
      go_wp2_with fail
      go_ret
      have h := HFIN.out (w5.setCell ⟨lp, 5, none⟩ (.int .i64 q.2)) ((Keeps.refl _ _).setCell (p := ⟨lp, 5, none⟩) (.inl (fun h => h rfl)) _)
      have r9 := r5.set 5 (.int .i64 q.2)
      have e9 : RL.cells p (.slice av r.texts.length cv) { r with lost := q.2 } = List.set [.pointer (some ⟨p, 0, none⟩), .int .u64 (num : Nat), .int .u64 (half : Nat), .slice av n cv, .string (tx BT), .int .i64 0] 5 (.int .i64 q.2) := by unfold RL.cells; simp only [HEQ.out.1, HEQ.out.2.1, HEQ.out.2.2.1, HEQ.out.2.2.2.2.2.1]; rfl
      rw [← HT2.out]
      refine ⟨rfl, ⟨_, by rw [e9]; exact r9, own_kept HRW.out.2.1 (fun g hg => ?_), fun g hg => .inl rfl, h.1.less (fun g hg => ?_)⟩, h.2⟩
      · exact h.2.block g (own_blk_lt HRW.out.2.1 hg) ⟨HRW.out.2.2.2.2.2.1 g hg, fun e => own_ne HRW.out.2.1 HRW.out.1 (by decide) (by rw [hg, e])⟩
      · rcases hg with h | h
        · exact h
        · exact HRW.out.2.2.2.2.2.1 g h

theorem refAdd_any (hr : Row w lp 37 (r.cells p tv)) (htv : w.ownsRow 0 9 1 tv r.texts.length r.vals) (hd : RefIs L w p D) (hL : ∀ k, L k → k < w.heap.size) (hlp : L lp) (hlt : ∀ g, tv.ownBlock = some g → L g)
    (hn : r.texts.length ≤ 1000) (hby : r.bytes.length ≤ secs D * 128) (hhf : r.half ≤ 1) (hs : D.steps ≤ 1000000) (hhg : D.hangs.length ≤ 1000000) (t : List UInt8) (h1 : t.length ≤ 100000) :
    Calls Tryz.prog 17 #[.pointer (some ⟨lp, 0, none⟩), .string (tx t)] w fun e w' => e = .returned (.int .i64 (r.add D t).2) ∧
      (∃ tv', Row w' lp 37 ((r.add D t).1.1.cells p tv') ∧ w'.ownsRow 0 9 1 tv' (r.add D t).1.1.texts.length (r.add D t).1.1.vals ∧ (∀ g, tv'.ownBlock = some g → tv' = tv ∨ w.heap.size ≤ g) ∧
      RefIs (fun k => L k ∨ tv'.ownBlock = some k) w' p (r.add D t).1.2) ∧ Keeps (fun k => L k ∧ k ≠ lp) w w' := by
  have hless : RefIs (fun k => L k ∨ tv.ownBlock = some k) w p D := hd.less (fun g hg => by
    rcases hg with h | h
    · exact h
    · exact hlt g h)
  by_cases hl : r.lost = 0
  · by_cases h2 : t.length ≤ 16384
    · exact refAdd_room hr htv hd hL hlp hlt hn hby hhf hs hhg hl t h2
    · have e : r.add D t = ((r, D), 5) := by unfold RL.add; rw [if_neg (by simp [hl]), if_pos (by omega)]
      rw [e]
      refine (refAdd_long hr hl t (by omega) h1).mono ?_
      rintro e w' ⟨rfl, rfl⟩
      exact ⟨rfl, ⟨tv, hr, htv, fun g _ => .inl rfl, hless⟩, Keeps.refl _ _⟩
  · have e : r.add D t = ((r, D), r.lost) := by unfold RL.add; rw [if_pos hl]
    rw [e]
    refine (refAdd_lost hr hl t).mono ?_
    rintro e w' ⟨rfl, rfl⟩
    exact ⟨rfl, ⟨tv, hr, htv, fun g _ => .inl rfl, hless⟩, Keeps.refl _ _⟩
end
end Go.Proofs.YtiaaeniopjpfpaaGreatDoor

namespace Go.Proofs.YtiaaeniopjpfpaaGreatDoor
open Go Go.RowKit Go.Maps
set_option linter.unusedVariables false
set_option linter.unusedSimpArgs false

/-- A half begun anew, by the document. -/
def refBegins (num half : Nat) (D : DS) (F : List UInt8) : DS × Int :=
  if (putG 2100 D (2 + half * secs D + 0) (List.replicate (secs D * 128) 0)).2 ≠ 0 then putG 2100 D (2 + half * secs D + 0) (List.replicate (secs D * 128) 0) else
  if (putG 2100 (putG 2100 D (2 + half * secs D + 0) (List.replicate (secs D * 128) 0)).1 (2 + half * secs (putG 2100 D (2 + half * secs D + 0) (List.replicate (secs D * 128) 0)).1 + 0) F).2 ≠ 0 then
    putG 2100 (putG 2100 D (2 + half * secs D + 0) (List.replicate (secs D * 128) 0)).1 (2 + half * secs (putG 2100 D (2 + half * secs D + 0) (List.replicate (secs D * 128) 0)).1 + 0) F else
  if (putG 2100 (putG 2100 D (2 + half * secs D + 0) (List.replicate (secs D * 128) 0)).1 (2 + half * secs (putG 2100 D (2 + half * secs D + 0) (List.replicate (secs D * 128) 0)).1 + 0) F).1.writeErr ((num % 2 : Nat) : Int) ≠ 0 then
    ((putG 2100 (putG 2100 D (2 + half * secs D + 0) (List.replicate (secs D * 128) 0)).1 (2 + half * secs (putG 2100 D (2 + half * secs D + 0) (List.replicate (secs D * 128) 0)).1 + 0) F).1.written ((num % 2 : Nat) : Int) (markB num half),
      (putG 2100 (putG 2100 D (2 + half * secs D + 0) (List.replicate (secs D * 128) 0)).1 (2 + half * secs (putG 2100 D (2 + half * secs D + 0) (List.replicate (secs D * 128) 0)).1 + 0) F).1.writeErr ((num % 2 : Nat) : Int)) else
  (((putG 2100 (putG 2100 D (2 + half * secs D + 0) (List.replicate (secs D * 128) 0)).1 (2 + half * secs (putG 2100 D (2 + half * secs D + 0) (List.replicate (secs D * 128) 0)).1 + 0) F).1.written ((num % 2 : Nat) : Int) (markB num half)).synced,
    ((putG 2100 (putG 2100 D (2 + half * secs D + 0) (List.replicate (secs D * 128) 0)).1 (2 + half * secs (putG 2100 D (2 + half * secs D + 0) (List.replicate (secs D * 128) 0)).1 + 0) F).1.written ((num % 2 : Nat) : Int) (markB num half)).stepErr)
def RL.renew (r : RL) (D : DS) (t : List UInt8) : (RL × DS) × Int :=
  if r.lost ≠ 0 then ((r, D), r.lost) else if secs D * 128 < t.length + 28 then ((r, D), 14) else
  if (refBegins (r.num + 1) (1 - r.half) D (frameL 1 t)).2 ≠ 0 then (({ r with lost := (refBegins (r.num + 1) (1 - r.half) D (frameL 1 t)).2 }, (refBegins (r.num + 1) (1 - r.half) D (frameL 1 t)).1), (refBegins (r.num + 1) (1 - r.half) D (frameL 1 t)).2)
  else ((⟨r.num + 1, 1 - r.half, [t], frameL 1 t, 0⟩, (refBegins (r.num + 1) (1 - r.half) D (frameL 1 t)).1), 0)

section
variable {L : Nat → Prop} {w : World} {lp p gl : Nat} {hv tv : Value} {D : DS} {r : RL}
set_option maxRecDepth 4000 in
theorem refRenew_lost (hr : Row w lp 37 (r.cells p tv)) (hl : r.lost ≠ 0) (t : List UInt8) :
    Calls Tryz.prog 15 #[.pointer (some ⟨lp, 0, none⟩), .string (tx t)] w fun e w' => e = .returned (.int .i64 r.lost) ∧ w = w' := by
  have c5 := hr.cell 5
  simp only [RL.cells, List.getElem?_cons_zero, List.getElem?_cons_succ] at c5
  obtain ⟨x, hx⟩ : ∃ x, r.lost = x := ⟨_, rfl⟩
  rw [hx] at c5 hl ⊢
  have hb : ((x : Int) != 0) = true := by simpa using hl
  clear hr hx hl
  go_enter Tryz.func15, Tryz.ntmps15
  go_wp2_with fail
  go_ret
  exact ⟨rfl, rfl⟩
set_option maxRecDepth 20000 in
set_option maxHeartbeats 2000000 in
theorem refRenew_full (hr : Row w lp 37 (r.cells p tv)) (hd : RefIs L w p D) (hl : r.lost = 0) (t : List UInt8) (h1 : t.length ≤ 90000) (hroom : secs D * 128 < t.length + 28) :
    Calls Tryz.prog 15 #[.pointer (some ⟨lp, 0, none⟩), .string (tx t)] w fun e w' => e = .returned (.int .i64 14) ∧ Below w.heap.size w w' := by
  have c5 := hr.cell 5
  simp only [RL.cells, List.getElem?_cons_zero, List.getElem?_cons_succ, hl] at c5
  have HFR : Hid (Calls Tryz.prog 25 #[.int .i64 1, .string (tx t)] w fun e w' => e = .returned (.string (tx (frameL 1 t))) ∧ Below w.heap.size w w') := Lib.hid (refFrame_any 1 t (by omega) (by omega) w)
  have hFs : (tx (frameL 1 t)).size = t.length + 28 := by rw [tx_size, frameL_length]; omega
  obtain ⟨F, hF⟩ : ∃ F, tx (frameL 1 t) = F := ⟨_, rfl⟩
  rw [hF] at HFR hFs
  have HRM : Hid (∀ W, Below w.heap.size w W → Calls Tryz.prog 21 #[.pointer (some ⟨lp, 0, none⟩)] W fun e w' => e = .returned (.int .i64 (secs D * 128 : Nat)) ∧ W = w') := Lib.hid fun W hW => refRoom_any (hr.below hW hr.lt) (hd.below hW)
  obtain ⟨S, hS⟩ : ∃ S, secs D * 128 = S := ⟨_, rfl⟩
  obtain ⟨k, hk⟩ : ∃ k, t.length = k := ⟨_, rfl⟩
  rw [hS] at HRM hroom
  rw [hk] at hroom hFs h1
  have hrI : (S : Int) < (k : Int) + 28 := by omega
  have hkI : (k : Int) ≤ 90000 := by omega
  clear hr hd hl hF hS hk hroom h1
  go_enter Tryz.func15, Tryz.ntmps15
  go_wp2_with fail
  refine HFR.out.mono ?_
  rintro e w1 ⟨rfl, hb1⟩
  have HB1 := Lib.hid hb1
  clear hb1
  go_wp2_with fail
  refine (HRM.out _ HB1.out).mono ?_
  rintro e w2 ⟨rfl, rfl⟩
  go_wp2_with fail
  go_ret
  exact ⟨rfl, HB1.out⟩
set_option maxRecDepth 20000 in
set_option maxHeartbeats 2000000 in
theorem refRenew_room (hr : Row w lp 37 (r.cells p tv)) (htv : w.ownsRow 0 9 1 tv r.texts.length r.vals) (hd : RefIs L w p D) (hL : ∀ k, L k → k < w.heap.size) (hlp : L lp) (hlt : ∀ g, tv.ownBlock = some g → L g)
    (hhf : r.half ≤ 1) (hnm : r.num ≤ 1000000) (hs : D.steps ≤ 900000) (hhg : D.hangs.length ≤ 900000) (hl : r.lost = 0) (t : List UInt8) (h1 : t.length ≤ 90000) (hroom : t.length + 28 ≤ secs D * 128) :
    Calls Tryz.prog 15 #[.pointer (some ⟨lp, 0, none⟩), .string (tx t)] w fun e w' => e = .returned (.int .i64 (r.renew D t).2) ∧
      (∃ tv', Row w' lp 37 ((r.renew D t).1.1.cells p tv') ∧ w'.ownsRow 0 9 1 tv' (r.renew D t).1.1.texts.length (r.renew D t).1.1.vals ∧ (∀ g, tv'.ownBlock = some g → tv' = tv ∨ w.heap.size ≤ g) ∧
      RefIs (fun k => L k ∨ tv'.ownBlock = some k) w' p (r.renew D t).1.2) ∧ Keeps (fun k => L k ∧ k ≠ lp) w w' := by
  obtain ⟨gl0, hv0, hd0⟩ := id hd
  have hsec : secs D ≤ 2047 := by have := hd0.good.most; unfold secs; omega
  have hc1 := putG_count 2100 D (2 + (1 - r.half) * secs D + 0) (List.replicate (secs D * 128) 0)
  have hren : r.renew D t = if (refBegins (r.num + 1) (1 - r.half) D (frameL 1 t)).2 ≠ 0 then (({ r with lost := (refBegins (r.num + 1) (1 - r.half) D (frameL 1 t)).2 }, (refBegins (r.num + 1) (1 - r.half) D (frameL 1 t)).1), (refBegins (r.num + 1) (1 - r.half) D (frameL 1 t)).2)
      else ((⟨r.num + 1, 1 - r.half, [t], frameL 1 t, 0⟩, (refBegins (r.num + 1) (1 - r.half) D (frameL 1 t)).1), 0) := by
    unfold RL.renew
    rw [if_neg (by simp [hl]), if_neg (by omega)]
  rw [hren]
  clear hren
  obtain ⟨F, hF⟩ : ∃ F, frameL 1 t = F := ⟨_, rfl⟩
  have hFl : F.length = t.length + 28 := by rw [← hF, frameL_length]; omega
  have HFR : Hid (∀ W, Calls Tryz.prog 25 #[.int .i64 1, .string (tx t)] W fun e w' => e = .returned (.string (tx F)) ∧ Below W.heap.size W w') := Lib.hid fun W => by
    have h := refFrame_any 1 t (by omega) (by omega) W
    rw [hF] at h
    exact h
  rw [hF]
  obtain ⟨TT, hTT⟩ : ∃ TT, (if (refBegins (r.num + 1) (1 - r.half) D F).2 ≠ 0 then ((({ r with lost := (refBegins (r.num + 1) (1 - r.half) D F).2 } : RL), (refBegins (r.num + 1) (1 - r.half) D F).1), (refBegins (r.num + 1) (1 - r.half) D F).2)
      else (((⟨r.num + 1, 1 - r.half, [t], F, 0⟩ : RL), (refBegins (r.num + 1) (1 - r.half) D F).1), 0)) = TT := ⟨_, rfl⟩
  rw [hTT]
  obtain ⟨bg, hbg⟩ : ∃ x, refBegins (r.num + 1) (1 - r.half) D F = x := ⟨_, rfl⟩
  rw [hbg] at hTT
  unfold refBegins at hbg
  obtain ⟨h2, hh2⟩ : ∃ x, 1 - r.half = x := ⟨_, rfl⟩
  obtain ⟨S, hS⟩ : ∃ S, secs D * 128 = S := ⟨_, rfl⟩
  rw [hh2] at hbg hTT hc1
  rw [hS] at hbg hc1
  obtain ⟨r1, hr1⟩ : ∃ x, putG 2100 D (2 + h2 * secs D + 0) (List.replicate S 0) = x := ⟨_, rfl⟩
  rw [hr1] at hbg hc1
  have hc2 := putG_count 2100 r1.1 (2 + h2 * secs r1.1 + 0) F
  obtain ⟨r2, hr2⟩ : ∃ x, putG 2100 r1.1 (2 + h2 * secs r1.1 + 0) F = x := ⟨_, rfl⟩
  rw [hr2] at hbg hc2
  have HW1 : Hid (∀ W, Below w.heap.size w W → Calls Tryz.prog 48 #[.pointer (some ⟨lp, 0, none⟩), .int .u64 (h2 : Nat), .int .i64 0, .string (tx (List.replicate S 0))] W fun e w' => e = .returned (.int .i64 r1.2) ∧ RefIs L w' p r1.1 ∧ Keeps L W w') := Lib.hid fun W hW => by
    have h := refWrite_any (L := L) (w := W) (lp := lp) (p := p) (D := D) (fun k hk => Nat.lt_of_lt_of_le (hL k hk) hW.size) hlp (hr.below hW hr.lt) (hd.below hW) h2 0 2100 (by omega) (by omega) (List.replicate S 0) (by rw [List.length_replicate]; omega) (by omega) (by omega) (by omega)
    rw [hr1] at h
    exact h
  have HW2 : Hid (∀ W, Keeps L w W → RefIs L W p r1.1 → Calls Tryz.prog 48 #[.pointer (some ⟨lp, 0, none⟩), .int .u64 (h2 : Nat), .int .i64 0, .string (tx F)] W fun e w' => e = .returned (.int .i64 r2.2) ∧ RefIs L w' p r2.1 ∧ Keeps L W w') := Lib.hid fun W hW hR => by
    have h := refWrite_any (L := L) (w := W) (lp := lp) (p := p) (D := r1.1) (fun k hk => Nat.lt_of_lt_of_le (hL k hk) hW.size) hlp ((hW.block lp hr.lt hlp).trans hr) hR h2 0 2100 (by omega) (by omega) F (by rw [hFl]; omega) (by omega) (by omega) (by omega)
    rw [hr2] at h
    exact h
  have HRM : Hid (∀ W, Below w.heap.size w W → Calls Tryz.prog 21 #[.pointer (some ⟨lp, 0, none⟩)] W fun e w' => e = .returned (.int .i64 (S : Nat)) ∧ W = w') := Lib.hid fun W hW => by
    have h := refRoom_any (hr.below hW hr.lt) (hd.below hW)
    rw [hS] at h
    exact h
  have hFs : (tx F).size = t.length + 28 := by rw [tx_size, hFl]
  have hTs : (tx t).size = t.length := tx_size t
  have c0 := hr.cell 0
  have c1 := hr.cell 1
  have c2 := hr.cell 2
  have c5 := hr.cell 5
  obtain ⟨k, hk⟩ : ∃ k, t.length = k := ⟨_, rfl⟩
  obtain ⟨BT, hBT⟩ : ∃ BT, r.bytes = BT := ⟨_, rfl⟩
  obtain ⟨half, hhalf⟩ : ∃ half, r.half = half := ⟨_, rfl⟩
  obtain ⟨num, hnum⟩ : ∃ num, r.num = num := ⟨_, rfl⟩
  simp only [RL.cells, List.getElem?_cons_zero, List.getElem?_cons_succ, hl] at c0 c1 c2 c5
  have hRC : r.cells p tv = [.pointer (some ⟨p, 0, none⟩), .int .u64 (num : Nat), .int .u64 (half : Nat), tv, .string (tx BT), .int .i64 0] := by unfold RL.cells; rw [hnum, hhalf, hBT, hl]
  have HRW := Lib.hid (And.intro hr (And.intro htv (And.intro hd (And.intro hL (And.intro hlp (And.intro hlt (And.intro hl hRC)))))))
  rw [hk] at hFs hTs h1 hroom
  rw [hS] at hroom
  rw [hhalf] at c2 hh2 hhf
  rw [hnum] at c1 hnm hbg hTT
  have hSI : (S : Int) ≤ 262016 := by omega
  have hkI : (k : Int) + 28 ≤ (S : Int) := by omega
  have hnI : (num : Int) ≤ 1000000 := by omega
  have hwr : IntKind.u64.wrap (1 - (half : Int)) = (h2 : Int) := by rw [IntKind.wrap_u64] <;> omega
  have hwn : IntKind.u64.wrap ((num : Int) + 1) = (num : Int) + 1 := by rw [IntKind.wrap_u64] <;> omega
  obtain ⟨i0, hi, hz0, hz1, hz2⟩ := info_parts u8_info3
  have hmk := fun W => make_row (P := Tryz.prog) 87 5 i0 (.int .u8 0) Tryz.underlying87 hi hz0 rfl hz1 S (by rw [hz2]; omega) (by omega) W
  have hcv : ∀ W : World, (convert 87 9 (.slice (some ⟨W.heap.size, 0, none⟩) S S)).run Tryz.prog (W.alloc (.cells (Array.replicate S (Value.int .u8 0)) 5)) = .ok (.string (tx (List.replicate S 0))) (W.alloc (.cells (Array.replicate S (Value.int .u8 0)) 5)) := fun W => by
    rw [← List.toArray_replicate]
    exact conv_bytes _ 87 9 5 Tryz.underlying87 Tryz.underlying5 Tryz.underlying9 W.heap.size 0 S S (List.replicate S 0) (List.length_replicate ..) (fun i hi => by
      rw [(Row.new W 5 (List.replicate S (Value.int .u8 0))).cell, Nat.zero_add, List.map_replicate]
      rfl)
  have HEQ := Lib.hid (And.intro hBT (And.intro hhalf (And.intro hnum (And.intro hk hF))))
  have HTT := Lib.hid (And.intro hbg hTT)
  have HC := Lib.hid (And.intro hc1 (And.intro hc2 (And.intro hs (And.intro hhg (And.intro hh2 hhf)))))
  have HMK : Hid (∀ W, Calls Tryz.prog 49 #[.int .u64 ((num : Int) + 1), .int .u64 (h2 : Nat)] W fun e w' => e = .returned (.string (tx (markL (num + 1) h2))) ∧ Below W.heap.size W w') := Lib.hid fun W => by
    have h := refMark_any (num + 1) h2 (by omega) (by omega) W
    rw [show ((num + 1 : Nat) : Int) = (num : Int) + 1 by omega] at h
    exact h
  have hz := (zero_of_info zB_info).1
  clear hr htv hd hd0 hL hlp hlt hs hhg hsec hF hFl hTT hbg hl hk hBT hhalf hnum hRC hhf h1 hroom hS hr1 hr2 hc1 hc2 hi hz0 hz1 hz2 hh2 hnm
  go_enter Tryz.func15, Tryz.ntmps15
  go_wp2_with fail
  refine (HFR.out _).mono ?_
  rintro e w1 ⟨rfl, hb1⟩
  have HB1 := Lib.hid hb1
  have c2 : w1.cell? ⟨lp, 2, none⟩ = some (.int .u64 (half : Nat)) := (Below.cell hb1 (HRW.out.1.lt)).trans c2
  clear hb1
  go_wp2_with fail
  refine (HRM.out _ HB1.out).mono ?_
  rintro e w2 ⟨rfl, rfl⟩
  go_wp2_with fail
  refine (HRM.out _ HB1.out).mono ?_
  rintro e w2 ⟨rfl, rfl⟩
  go_wp2_with fail
  have hbz : Below w.heap.size w (w1.alloc (.cells (Array.replicate S (Value.int .u8 0)) 5)) := HB1.out.alloc HB1.out.size _
  have HBZ := Lib.hid hbz
  clear hbz hmk hcv
  refine (HW1.out _ HBZ.out).mono ?_
  rintro e w3 ⟨rfl, hd3, hk3⟩
  have k3 : Keeps L w w3 := (Keeps.of_below (L := L) HBZ.out (fun q h _ => h)).trans hk3
  have r3 : Row w3 lp 37 (r.cells p tv) := (k3.block lp HRW.out.1.lt HRW.out.2.2.2.2.1).trans HRW.out.1
  have H3 := Lib.hid (And.intro hd3 (And.intro k3 r3))
  clear r3
  clear hd3 hk3 k3
  have HFIN : Hid (∀ (W W' : World) (q : DS), RefIs L W p q → Keeps L w W → Row W lp 37 (r.cells p tv) → bg.2 ≠ 0 → q = bg.1 → W' = W.setCell ⟨lp, 5, none⟩ (.int .i64 bg.2) →
      (Row W' lp 37 (TT.1.1.cells p tv) ∧ W'.ownsRow 0 9 1 tv TT.1.1.texts.length TT.1.1.vals ∧ RefIs (fun k => L k ∨ tv.ownBlock = some k) W' p TT.1.2) ∧ Keeps (fun k => L k ∧ k ≠ lp) w W') := Lib.hid fun W W' q hR hK hr hb hq hW => by
    subst hW hq
    have hTT := HTT.out.2
    rw [if_pos hb] at hTT
    rw [← hTT]
    have hK2 : Keeps (fun k => k ≠ lp) W (W.setCell ⟨lp, 5, none⟩ (.int .i64 bg.2)) := (Keeps.refl _ _).setCell (p := ⟨lp, 5, none⟩) (.inl (fun h => h rfl)) _
    have hKK : Keeps (fun k => L k ∧ k ≠ lp) w (W.setCell ⟨lp, 5, none⟩ (.int .i64 bg.2)) := (hK.mono (fun q h => h.1)).trans (hK2.mono (fun q h => h.2))
    have e9 : RL.cells p tv ⟨num, r.half, r.texts, r.bytes, bg.2⟩ = (r.cells p tv).set 5 (.int .i64 bg.2) := by unfold RL.cells; rw [HEQ.out.2.2.1]; rfl
    refine ⟨⟨by show Row _ lp _ (RL.cells p tv ⟨num, r.half, r.texts, r.bytes, bg.2⟩); rw [e9]; exact hr.set 5 (.int .i64 bg.2), own_kept HRW.out.2.1 (fun g hg => hKK.block g (own_blk_lt HRW.out.2.1 hg) ⟨HRW.out.2.2.2.2.2.1 g hg, fun e => own_ne HRW.out.2.1 HRW.out.1 (by decide) (by rw [hg, e])⟩), ?_⟩, hKK⟩
    refine RefIs.keeps (M := fun q => q ≠ lp) (hR.less (fun g hg => ?_)) hK2 (fun q _ h e => h (.inl (e ▸ HRW.out.2.2.2.2.1)))
    rcases hg with h | h
    · exact h
    · exact HRW.out.2.2.2.2.2.1 g h
  by_cases e1 : r1.2 = 0
  · have hbg := HTT.out.1
    rw [if_neg (by simp [e1])] at hbg
    have HBG := Lib.hid hbg
    have e1b : ((r1.2 : Int) == 0) = true := by simp [e1]
    clear hbg e1
    go_wp2_with fail
    refine (HW2.out _ H3.out.2.1 H3.out.1).mono ?_
    rintro e w4 ⟨rfl, hd4, hk4⟩
    have k4 := H3.out.2.1.trans hk4
    have r4 : Row w4 lp 37 (r.cells p tv) := (k4.block lp HRW.out.1.lt HRW.out.2.2.2.2.1).trans HRW.out.1
    have H4 := Lib.hid (And.intro hd4 (And.intro k4 r4))
    clear hd4 hk4 k4
    by_cases e2 : r2.2 = 0
    · have hbg := HBG.out
      rw [if_neg (by simp [e2])] at hbg
      have HBG2 := Lib.hid hbg
      have e2b : ((r2.2 : Int) == 0) = true := by simp [e2]
      have c1 := (r4.alloc (.cells zB.toArray 90)).cell 1
      simp only [RL.cells, List.getElem?_cons_zero, List.getElem?_cons_succ, HEQ.out.2.2.1] at c1
      clear hbg e2 r4
      go_wp2_with fail
      refine (HMK.out _).mono ?_
      rintro e w5 ⟨rfl, hb5⟩
      obtain ⟨b, hb⟩ : ∃ b, w4.heap.size = b := ⟨_, rfl⟩
      have hb45 : Below b w4 w5 := ((Below.refl b w4).alloc (by rw [hb]; exact Nat.le_refl _) (.cells zB.toArray 90)).trans (hb5.mono (by rw [World.size_alloc]; omega))
      have rb5 : Row w5 b 90 zB := by rw [← hb]; exact (Row.new w4 90 zB).below hb5 (by rw [World.size_alloc]; omega)
      obtain ⟨M, hM⟩ : ∃ M, markL (num + 1) h2 = M := ⟨_, rfl⟩
      have hMl : M.length = 40 := by rw [← hM, markL_length]
      have hMz : (tx M).size = 40 := by rw [tx_size, hMl]
      have hMB : M ++ z128.drop 40 = markB (num + 1) h2 := by rw [← hM]; unfold z128 markB; rw [List.drop_replicate]
      have e0 : zB = (M.take 0 ++ z128.drop 0).map bv := by rw [List.take_zero, List.drop_zero, List.nil_append, zB_eq]
      rw [hM, hb]
      rw [e0] at rb5
      have H5 := Lib.hid (And.intro hb45 (And.intro rb5 hb))
      have HMM := Lib.hid (And.intro hMl hMB)
      clear hb5 hb45 rb5 hM hMl hMB e0 hb c1
      go_wp2_with fail
      go_loopw [10] (fun i wq => ∃ j : Nat, j ≤ 40 ∧ i = .int .i64 j ∧ Row wq b 90 ((M.take j ++ z128.drop j).map bv) ∧ Below b w4 wq) (fun i _ => 128 - (intOf i).toNat)
      case atStart => exact ⟨0, Nat.zero_le _, rfl, H5.out.2.1, H5.out.1⟩
      case round =>
        obtain ⟨j, hj1, rfl, hrq, hbq⟩ := hrel
        by_cases hlt : j < 40
        · have hjs : j < (tx M).size := by rw [hMz]; exact hlt
          have hx : M[j]? = some ((tx M)[j]'hjs) := by
            have h1 : (tx M).data[j]? = some ((tx M).data[j]'hjs) := Array.getElem?_eq_getElem hjs
            have h2 : (tx M).data[j]? = M[j]? := by show M.toArray[j]? = M[j]?; exact List.getElem?_toArray
            rw [← h2, h1]
            rfl
          have hcell : wr.cell? ⟨b, j, none⟩ = some (.int .u8 0) := by
            rw [hrq.cell, List.getElem?_map, List.getElem?_append_right (by rw [List.length_take]; omega), List.getElem?_drop, List.length_take, HMM.out.1, show j + (j - min j 40) = j by omega]
            unfold z128
            rw [List.getElem?_replicate, if_pos (by omega)]
            rfl
          have hfr := hrq.frozen j
          have r3 := hrq.set j (bv ((tx M)[j]'hjs))
          have e3 : ((M.take j ++ z128.drop j).map bv).set j (bv ((tx M)[j]'hjs)) = (M.take (j + 1) ++ z128.drop (j + 1)).map bv := by
            rw [← List.map_set]
            congr 1
            have h1 : (M.take j).length = j := by rw [List.length_take, HMM.out.1]; omega
            have h2 : z128.drop j = 0 :: z128.drop (j + 1) := by unfold z128; rw [List.drop_replicate, List.drop_replicate, show 128 - j = (128 - (j + 1)) + 1 by omega, List.replicate_succ]
            rw [List.set_append_right _ _ (by omega), h1, Nat.sub_self, h2, List.set_cons_zero, List.take_add_one, hx, List.append_assoc]
            rfl
          rw [e3] at r3
          have b3 := hbq.setCell (p := ⟨b, j, none⟩) (Nat.le_refl _) (bv ((tx M)[j]'hjs))
          have HB3 := Lib.hid (And.intro r3 b3)
          have hj128 : j < 128 := by omega
          clear hrq hbq hx r3 e3 b3
          go_wp2_with fail
          go_roundw
          case rel => exact ⟨j + 1, by omega, by go_num, HB3.out.1, HB3.out.2⟩
          case measure => simp [intOf]; omega
        · obtain rfl : j = 40 := by omega
          rw [List.take_of_length_le (by rw [HMM.out.1]; exact Nat.le_refl _), HMM.out.2] at hrq
          have HQ := Lib.hid (And.intro hrq hbq)
          clear hlt hrq hbq
          go_wp2_with fail
          have hbw : Below b w4 wr.drew := below_drewK HQ.out.2 1
          have hszb : b < wr.heap.size := HQ.out.1.lt
          obtain ⟨MB, hMBe⟩ : ∃ MB, markB (num + 1) h2 = MB := ⟨_, rfl⟩
          have hMBl : MB.length = 128 := by rw [← hMBe, markB_length]
          have HBG3 := HBG2.out
          have hrowb := HQ.out.1
          rw [hMBe] at hrowb HBG3
          obtain ⟨C1, hC1⟩ : ∃ C1, MB.map bv = C1 := ⟨_, rfl⟩
          have hsz1 := blk_sizeK _ hMBl
          have hV1 : blkV MB = .agg C1.toArray := by unfold blkV; rw [hC1]
          rw [hC1] at hsz1 hrowb
          obtain ⟨m2, hm2⟩ : ∃ m2, (num + 1) % 2 = m2 := ⟨_, rfl⟩
          rw [hm2] at HBG3
          have HM2 : Hid (((num : Int) + 1) % 2 = (m2 : Int) ∧ (m2 : Int) < 2) := Lib.hid ⟨by omega, by omega⟩
          have hm2I : (m2 : Int) < 2 := by omega
          have HCC := Lib.hid (And.intro hsz1 trivial)
          have HS0 : Hid (Row wr.drew lp 37 (r.cells p tv) ∧ Row wr.drew b 90 C1) := Lib.hid ⟨(hbw.block lp (by rw [← H5.out.2.2]; exact H4.out.2.2.lt)).trans H4.out.2.2, hrowb.drew⟩
          have HK7 : Hid (Keeps L w wr.drew) := Lib.hid (H4.out.2.1.trans (Keeps.of_below hbw (fun q hq _ => by rw [← H5.out.2.2]; exact hq)))
          have hdD : RefIs (fun q => L q ∨ q = b) wr.drew p r2.1 := (H4.out.1.more (fun q hq => by
            rcases hq with h | h
            · exact .inl h
            · exact .inr (by have := H5.out.2.2; omega))).below (by rw [H5.out.2.2]; exact hbw)
          have HWR : Hid (Calls Tryz.prog 50 #[.pointer (some ⟨p, 0, none⟩), .int .i64 (m2 : Nat), .agg C1.toArray] wr.drew fun e w' => e = .returned (.int .i64 (r2.1.writeErr (m2 : Nat))) ∧ RefIs (fun q => L q ∨ q = b) w' p (r2.1.written (m2 : Nat) MB) ∧ Keeps (fun q => L q ∨ q = b) wr.drew w') := Lib.hid (by
            obtain ⟨gl1, hv1, hd1⟩ := hdD
            have h := RWrite_any (fun q hq => ?_) hd1 (m2 : Nat) MB hMBl (by have := HC.out; omega) (by have := HC.out; omega)
            · rw [hV1] at h
              exact h
            · show q < wr.heap.size
              rcases hq with h | h
              · have := H4.out.2.1.size; have := HRW.out.2.2.2.1 q h; have := H5.out.2.2; omega
              · omega)
          have HBG4 := Lib.hid HBG3
          have hc3 := writ_count r2.1 (m2 : Nat) MB
          have HC3 := Lib.hid hc3
          clear hbw hszb hMBe hMBl HBG3 hrowb hC1 hsz1 hV1 hm2 hdD HBG2 hc3
          refine wp_region_noPanic ?_
          refine wp_region_held_drew (S := fun W => Row W lp 37 (r.cells p tv) ∧ Row W b 90 C1) (by kernel_rfl) HS0.out (fun hHeld => ?_)
          refine wpAnyH_take (i := 0) (oi := { dst := some 65, op := Op.move (Operand.tmp 0), type := 34, pos := "ref.go:109", after := #[], guard := none }) (v := ?vvz_0) rfl (by kernel_rfl) (by kernel_rfl) (by kernel_rfl) (fun _ _ _ h => h) (Or.inl ⟨by rfl, ?yyz_0⟩) hHeld ?_
          case vvz_0 => exact .pointer (some ⟨lp, 0, none⟩)
          case yyz_0 =>
            intro W hS
            go_simp
          try simp only [Act.put, List.setIfInBounds_toArray, List.set_cons_zero, List.set_cons_succ]
          refine wpAnyH_take (i := 1) (oi := { dst := some 66, op := Op.nilCheck (Operand.tmp 65), type := 0, pos := "ref.go:109", after := #[{ on := 0, ground := Ground.data }], guard := none }) (v := ?vvz_1) rfl (by kernel_rfl) (by kernel_rfl) (by kernel_rfl) (fun _ _ _ h => h) (Or.inl ⟨by rfl, ?yyz_1⟩) hHeld ?_
          case vvz_1 => exact .pointer (some ⟨lp, 0, none⟩)
          case yyz_1 =>
            intro W hS
            go_simp
          try simp only [Act.put, List.setIfInBounds_toArray, List.set_cons_zero, List.set_cons_succ]
          refine wpAnyH_take (i := 2) (oi := { dst := some 67, op := Op.fieldAddr 37 (Operand.tmp 66) 0, type := 0, pos := "ref.go:109", after := #[{ on := 1, ground := Ground.data }], guard := none }) (v := ?vvz_2) rfl (by kernel_rfl) (by kernel_rfl) (by kernel_rfl) (fun _ _ _ h => h) (Or.inl ⟨by rfl, ?yyz_2⟩) hHeld ?_
          case vvz_2 => exact .pointer (some ⟨lp, 0, none⟩)
          case yyz_2 =>
            intro W hS
            go_simp
          try simp only [Act.put, List.setIfInBounds_toArray, List.set_cons_zero, List.set_cons_succ]
          refine wpAnyH_take (i := 3) (oi := { dst := some 68, op := Op.load 28 (Operand.tmp 67), type := 28, pos := "ref.go:109", after := #[{ on := 2, ground := Ground.data }], guard := none }) (v := ?vvz_3) rfl (by kernel_rfl) (by kernel_rfl) (by kernel_rfl) (fun _ _ _ h => h) (Or.inl ⟨by rfl, ?yyz_3⟩) hHeld ?_
          case vvz_3 => exact .pointer (some ⟨p, 0, none⟩)
          case yyz_3 =>
            intro W hS
            have q0 := Row.cell hS.1 0
            simp only [RL.cells, List.getElem?_cons_zero, List.getElem?_cons_succ] at q0
            go_simp
          try simp only [Act.put, List.setIfInBounds_toArray, List.set_cons_zero, List.set_cons_succ]
          refine wpAnyH_take (i := 4) (oi := { dst := some 69, op := Op.move (Operand.tmp 0), type := 34, pos := "ref.go:109", after := #[], guard := none }) (v := ?vvz_4) rfl (by kernel_rfl) (by kernel_rfl) (by kernel_rfl) (fun _ _ _ h => h) (Or.inl ⟨by rfl, ?yyz_4⟩) hHeld ?_
          case vvz_4 => exact .pointer (some ⟨lp, 0, none⟩)
          case yyz_4 =>
            intro W hS
            go_simp
          try simp only [Act.put, List.setIfInBounds_toArray, List.set_cons_zero, List.set_cons_succ]
          refine wpAnyH_take (i := 5) (oi := { dst := some 70, op := Op.nilCheck (Operand.tmp 69), type := 0, pos := "ref.go:109", after := #[{ on := 4, ground := Ground.data }], guard := none }) (v := ?vvz_5) rfl (by kernel_rfl) (by kernel_rfl) (by kernel_rfl) (fun _ _ _ h => h) (Or.inl ⟨by rfl, ?yyz_5⟩) hHeld ?_
          case vvz_5 => exact .pointer (some ⟨lp, 0, none⟩)
          case yyz_5 =>
            intro W hS
            go_simp
          try simp only [Act.put, List.setIfInBounds_toArray, List.set_cons_zero, List.set_cons_succ]
          refine wpAnyH_take (i := 6) (oi := { dst := some 71, op := Op.fieldAddr 37 (Operand.tmp 70) 1, type := 0, pos := "ref.go:109", after := #[{ on := 5, ground := Ground.data }], guard := none }) (v := ?vvz_6) rfl (by kernel_rfl) (by kernel_rfl) (by kernel_rfl) (fun _ _ _ h => h) (Or.inl ⟨by rfl, ?yyz_6⟩) hHeld ?_
          case vvz_6 => exact .pointer (some ⟨lp, 1, none⟩)
          case yyz_6 =>
            intro W hS
            go_simp
          try simp only [Act.put, List.setIfInBounds_toArray, List.set_cons_zero, List.set_cons_succ]
          refine wpAnyH_take (i := 7) (oi := { dst := some 72, op := Op.load 35 (Operand.tmp 71), type := 35, pos := "ref.go:109", after := #[{ on := 6, ground := Ground.data }], guard := none }) (v := ?vvz_7) rfl (by kernel_rfl) (by kernel_rfl) (by kernel_rfl) (fun _ _ _ h => h) (Or.inl ⟨by rfl, ?yyz_7⟩) hHeld ?_
          case vvz_7 => exact .int .u64 (num : Nat)
          case yyz_7 =>
            intro W hS
            have q0 := Row.cell hS.1 1
            simp only [RL.cells, List.getElem?_cons_zero, List.getElem?_cons_succ, HEQ.out.2.2.1] at q0
            go_simp
          try simp only [Act.put, List.setIfInBounds_toArray, List.set_cons_zero, List.set_cons_succ]
          refine wpAnyH_take (i := 8) (oi := { dst := some 73, op := Op.binOp BinOp.add 35 (Operand.tmp 72) (Operand.const (Value.int IntKind.u64 1)) 35, type := 35, pos := "ref.go:109", after := #[{ on := 7, ground := Ground.data }], guard := none }) (v := ?vvz_8) rfl (by kernel_rfl) (by kernel_rfl) (by kernel_rfl) (fun _ _ _ h => h) (Or.inl ⟨by rfl, ?yyz_8⟩) hHeld ?_
          case vvz_8 => exact .int .u64 ((num : Int) + 1)
          case yyz_8 =>
            intro W hS
            go_simp
          try simp only [Act.put, List.setIfInBounds_toArray, List.set_cons_zero, List.set_cons_succ]
          refine wpAnyH_take (i := 9) (oi := { dst := some 74, op := Op.binOp BinOp.rem 35 (Operand.tmp 73) (Operand.const (Value.int IntKind.u64 2)) 35, type := 35, pos := "ref.go:109", after := #[{ on := 8, ground := Ground.data }], guard := none }) (v := ?vvz_9) rfl (by kernel_rfl) (by kernel_rfl) (by kernel_rfl) (fun _ _ _ h => h) (Or.inl ⟨by rfl, ?yyz_9⟩) hHeld ?_
          case vvz_9 => exact .int .u64 (m2 : Nat)
          case yyz_9 =>
            intro W hS
            have q0 := HM2.out.1
            go_simp
            try (rw [Int.tmod_eq_emod_of_nonneg (by omega)]; exact q0)
          try simp only [Act.put, List.setIfInBounds_toArray, List.set_cons_zero, List.set_cons_succ]
          refine wpAnyH_take (i := 10) (oi := { dst := some 75, op := Op.convert 35 3 (Operand.tmp 74), type := 3, pos := "ref.go:109", after := #[{ on := 9, ground := Ground.data }], guard := none }) (v := ?vvz_10) rfl (by kernel_rfl) (by kernel_rfl) (by kernel_rfl) (fun _ _ _ h => h) (Or.inl ⟨by rfl, ?yyz_10⟩) hHeld ?_
          case vvz_10 => exact .int .i64 (m2 : Nat)
          case yyz_10 =>
            intro W hS
            have q0 := HM2.out.2
            go_simp
            try (rw [IntKind.wrap_i64] <;> omega)
          try simp only [Act.put, List.setIfInBounds_toArray, List.set_cons_zero, List.set_cons_succ]
          refine' wpAnyH_take (i := 11) (oi := { dst := some 76, op := Op.load 90 (Operand.tmp 8), type := 90, pos := "ref.go:109", after := #[], guard := none }) (v := .agg C1.toArray) rfl (by kernel_rfl) (by kernel_rfl) (by kernel_rfl) (fun _ _ _ h => h) (yieldsIf_load_mid (by rfl) _ _ rfl b 0 rfl C1 _ (fun W h => (fun j v hj => by rw [Nat.zero_add, h.2.cell]; exact hj)) Tryz.underlying90 rfl HCC.out.1) hHeld ?_
          try simp only [Act.put, List.setIfInBounds_toArray, List.set_cons_zero, List.set_cons_succ]
          refine wpAnyH_ready (rs := [12]) (by kernel_rfl) (by simp) (AllReadyH.cons (o := { dst := some 77, op := Op.call { callee := Callee.value (Operand.func 50), args := #[Operand.tmp 68, Operand.tmp 75, Operand.tmp 76], argTypes := #[28, 3, 90] }, type := 3, pos := "ref.go:109", after := #[{ on := 3, ground := Ground.data }, { on := 10, ground := Ground.data }, { on := 11, ground := Ground.data }], guard := none }) rfl (fun K hK => ?_) AllReadyH.nil)
          go_simp
          go_at_call 50
          refine HWR.out.mono ?_
          rintro e w8 ⟨rfl, hd8, hk8⟩
          have s8 : Row w8 lp 37 (r.cells p tv) ∧ Row w8 b 90 C1 := ⟨(hk8.block lp HS0.out.1.lt (.inl HRW.out.2.2.2.2.1)).trans HS0.out.1, (hk8.block b HS0.out.2.lt (.inr rfl)).trans HS0.out.2⟩
          have H8 := Lib.hid (And.intro (hd8.less (fun q h => .inl h)) (And.intro (HK7.out.trans (hk8.mono (fun q h => .inl h))) (And.intro s8.1 s8.2)))
          refine hK.out _ _ s8 (fun hHeld => ?_)
          clear hK K hd8 hk8 s8
          try simp only [Act.put, List.setIfInBounds_toArray, List.set_cons_zero, List.set_cons_succ]
          refine wpAnyH_ready (rs := [13]) (by kernel_rfl) (by simp) (AllReadyH.cons (o := { dst := some 7, op := Op.assign (Operand.tmp 77), type := 3, pos := "ref.go:109", after := #[{ on := 12, ground := Ground.data }, { on := 12, ground := Ground.chain }, { on := 0, ground := Ground.phase }, { on := 1, ground := Ground.phase }, { on := 2, ground := Ground.phase }, { on := 3, ground := Ground.phase }, { on := 4, ground := Ground.phase }, { on := 5, ground := Ground.phase }, { on := 6, ground := Ground.phase }, { on := 7, ground := Ground.phase }, { on := 8, ground := Ground.phase }, { on := 9, ground := Ground.phase }, { on := 10, ground := Ground.phase }, { on := 11, ground := Ground.phase }, { on := 12, ground := Ground.phase }], guard := none }) rfl (fun K hK => ?_) AllReadyH.nil)
          go_simp
          refine hK.out _ _ ⟨H8.out.2.2.1, H8.out.2.2.2⟩ (fun hHeld => ?_)
          clear hK K
          try simp only [Act.put, List.setIfInBounds_toArray, List.set_cons_zero, List.set_cons_succ]
          refine wpAnyH_done (by kernel_rfl) ?_ _
          refine NoPanic.normal ?_
          obtain ⟨WE, hWE⟩ : ∃ x, r2.1.writeErr m2 = x := ⟨_, rfl⟩
          have HT8 := HBG4.out
          rw [hWE] at HT8 ⊢
          obtain ⟨D8, hD8⟩ : ∃ x, r2.1.written m2 MB = x := ⟨_, rfl⟩
          have H9 := H8.out
          have hc3 := HC3.out
          rw [hD8] at HT8 H9 hc3
          have HBG5 := Lib.hid HT8
          have H9 := Lib.hid H9
          have HC3 := Lib.hid hc3
          clear hWE HT8 hD8 hc3
          by_cases e3 : WE = 0
          · have hbg := HBG5.out
            rw [if_neg (by simp [e3])] at hbg
            have HBG := Lib.hid hbg
            subst e3
            have c0 := H9.out.2.2.1.cell 0
            simp only [RL.cells, List.getElem?_cons_zero] at c0
            have HSY : Hid (Calls Tryz.prog 51 #[.pointer (some ⟨p, 0, none⟩)] w8 fun e w' => e = .returned (.int .i64 D8.stepErr) ∧ RefIs L w' p D8.synced ∧ Keeps L w8 w') := Lib.hid (by
              obtain ⟨gl1, hv1, hd1⟩ := H9.out.1
              exact RSync_any hd1 (by have := HC3.out; have := HC.out; omega) (by have := HC3.out; have := HC.out; omega))
            clear hbg
            go_wp2_with fail
            refine HSY.out.mono ?_
            rintro e w10 ⟨rfl, hd10, hk10⟩
            have k10 := H9.out.2.1.trans hk10
            have r10 : Row w10 lp 37 (r.cells p tv) := (k10.block lp HRW.out.1.lt HRW.out.2.2.2.2.1).trans HRW.out.1
            have H10 := Lib.hid (And.intro hd10 (And.intro k10 r10))
            clear hd10 hk10 k10
            obtain ⟨SE, hSE⟩ : ∃ x, D8.stepErr = x := ⟨_, rfl⟩
            have hbg := HBG.out
            rw [hSE] at hbg ⊢
            have HBG := Lib.hid hbg
            clear hSE
            by_cases e4 : SE = 0
            · subst e4
              clear hbg
              have hTT := HTT.out.2
              rw [if_neg (by rw [← HBG.out]; simp)] at hTT
              have HT2 := Lib.hid hTT
              clear hTT
              have r11 := (((r10.set 1 (.int .u64 ((num : Int) + 1))).set 2 (.int .u64 (h2 : Nat))).set 4 (.string (tx F)))
              have r12 := r11.alloc (.cells #[.string (tx t)] 9)
              have c1 := r10.cell 1
              have c2 := r10.cell 2
              have c3 := r12.cell 3
              have c4 := r10.cell 4
              have f1 := r10.frozen 1
              have f2 := r10.frozen 2
              have f3 := r12.frozen 3
              have f4 := r10.frozen 4
              simp only [RL.cells, List.set_cons_succ, List.set_cons_zero, List.getElem?_cons_zero, List.getElem?_cons_succ, HEQ.out.2.2.1] at c1 c2 c3 c4
              have H11 := Lib.hid (And.intro r11 r12)
              have H10b := Lib.hid r10
              clear r10 r11 r12
              go_wp2_with fail
              go_ret
              rw [← HT2.out]
              have hszW : (((w10.setCell ⟨lp, 1, none⟩ (.int .u64 ((num : Int) + 1))).setCell ⟨lp, 2, none⟩ (.int .u64 (h2 : Nat))).setCell ⟨lp, 4, none⟩ (.string (tx F))).heap.size = w10.heap.size := by simp
              have hKW : Keeps (fun q => q ≠ lp) w10 ((((w10.setCell ⟨lp, 1, none⟩ (.int .u64 ((num : Int) + 1))).setCell ⟨lp, 2, none⟩ (.int .u64 (h2 : Nat))).setCell ⟨lp, 4, none⟩ (.string (tx F))).alloc (.cells #[.string (tx t)] 9)) := ((((Keeps.refl _ _).setCell (p := ⟨lp, 1, none⟩) (.inl (fun h => h rfl)) _).setCell (p := ⟨lp, 2, none⟩) (.inl (fun h => h rfl)) _).setCell (p := ⟨lp, 4, none⟩) (.inl (fun h => h rfl)) _).trans (Keeps.of_below ((Below.refl w10.heap.size (((w10.setCell ⟨lp, 1, none⟩ (.int .u64 ((num : Int) + 1))).setCell ⟨lp, 2, none⟩ (.int .u64 (h2 : Nat))).setCell ⟨lp, 4, none⟩ (.string (tx F)))).alloc (by rw [hszW]; exact Nat.le_refl _) _) (fun q hq _ => by rw [hszW] at hq; exact hq))
              have hKF := hKW.setCell (p := ⟨lp, 3, none⟩) (.inl (fun h => h rfl)) (.slice (some ⟨w10.heap.size, 0, none⟩) 1 1)
              have hlp10 : lp < w10.heap.size := H10b.out.lt
              have hszw : w.heap.size ≤ w10.heap.size := H10.out.2.1.size
              have e9 : RL.cells p (.slice (some ⟨w10.heap.size, 0, none⟩) 1 1) ⟨num + 1, h2, [t], F, 0⟩ = ((((r.cells p tv).set 1 (.int .u64 ((num : Int) + 1))).set 2 (.int .u64 (h2 : Nat))).set 4 (.string (tx F))).set 3 (.slice (some ⟨w10.heap.size, 0, none⟩) 1 1) := by
                unfold RL.cells
                rw [HRW.out.2.2.2.2.2.2.1, show ((num + 1 : Nat) : Int) = (num : Int) + 1 by omega]
                rfl
              refine ⟨rfl, ⟨.slice (some ⟨w10.heap.size, 0, none⟩) 1 1, ?_, ?_, fun g hg => ?_, ?_⟩, ?_⟩
              · show Row _ lp _ (RL.cells p _ ⟨num + 1, h2, [t], F, 0⟩)
                rw [e9]
                exact H11.out.2.set 3 _
              · refine own_kept (w := (((w10.setCell ⟨lp, 1, none⟩ (.int .u64 ((num : Int) + 1))).setCell ⟨lp, 2, none⟩ (.int .u64 (h2 : Nat))).setCell ⟨lp, 4, none⟩ (.string (tx F))).alloc (.cells #[.string (tx t)] 9)) ?_ (fun g hg => Below.heap_setCell _ ⟨lp, 3, none⟩ _ g (fun e => ?_))
                · refine ⟨rfl, .inr ⟨w10.heap.size, 1, #[.string (tx t)], rfl, Nat.zero_le _, by have h := heap_alloc_new (((w10.setCell ⟨lp, 1, none⟩ (.int .u64 ((num : Int) + 1))).setCell ⟨lp, 2, none⟩ (.int .u64 (h2 : Nat))).setCell ⟨lp, 4, none⟩ (.string (tx F))) (.cells #[.string (tx t)] 9); rw [hszW] at h; exact h, Nat.le_refl _, by unfold maxLen; omega, rfl, rfl⟩⟩
                · have h1 : g = w10.heap.size := by simpa [Value.ownBlock] using hg.symm
                  have h2 : g = lp := e
                  omega
              · exact .inr (by have h1 : g = w10.heap.size := by simpa [Value.ownBlock] using hg.symm
                               omega)
              · show RefIs _ _ p bg.1
                rw [show bg.1 = D8.synced by rw [← HBG.out]]
                refine RefIs.keeps (M := fun q => q ≠ lp) (H10.out.1.more (fun g hg => ?_)) hKF (fun q _ h e => h (.inl (e ▸ HRW.out.2.2.2.2.1)))
                rcases hg with h | h
                · exact .inl h
                · exact .inr (by have h1 : g = w10.heap.size := by simpa [Value.ownBlock] using h.symm
                                 omega)
              · exact (H10.out.2.1.mono (fun q h => h.1)).trans (hKF.mono (fun q h => h.2))
            · clear r10
              have eb : ((SE : Int) == 0) = false := by simpa using e4
              have en : ((SE : Int) != 0) = true := by simpa using e4
              have c5 := H10.out.2.2.cell 5
              have f5 := H10.out.2.2.frozen 5
              simp only [RL.cells, HRW.out.2.2.2.2.2.2.1, List.getElem?_cons_zero, List.getElem?_cons_succ] at c5
              have hbz2 : bg.2 = SE := by rw [← HBG.out]
              have hfin := HFIN.out w10 _ _ H10.out.1 H10.out.2.1 H10.out.2.2 (by rw [hbz2]; exact e4) (by rw [← HBG.out]) rfl
              have HFI := Lib.hid hfin
              have HTR : Hid (TT.2 = SE) := Lib.hid (by rw [← HTT.out.2, if_pos (by rw [hbz2]; exact e4), hbz2])
              rw [hbz2] at HFI
              clear hfin hbz2 hbg e4
              go_wp2_with fail

              go_ret
              rw [HTR.out]
              exact ⟨rfl, ⟨tv, HFI.out.1.1, HFI.out.1.2.1, fun g _ => .inl rfl, HFI.out.1.2.2⟩, HFI.out.2⟩
          · have hbg := HBG5.out
            rw [if_pos e3] at hbg
            have HBG := Lib.hid hbg
            have H9 := Lib.hid (And.intro H9.out.1 (And.intro H9.out.2.1 H9.out.2.2.1))
            have eb : ((WE : Int) == 0) = false := by simpa using e3
            have en : ((WE : Int) != 0) = true := by simpa using e3
            have c5 := H9.out.2.2.cell 5
            have f5 := H9.out.2.2.frozen 5
            simp only [RL.cells, HRW.out.2.2.2.2.2.2.1, List.getElem?_cons_zero, List.getElem?_cons_succ] at c5
            have hbz2 : bg.2 = WE := by rw [← HBG.out]
            have hfin := HFIN.out w8 _ _ H9.out.1 H9.out.2.1 H9.out.2.2 (by rw [hbz2]; exact e3) (by rw [← HBG.out]) rfl
            have HFI := Lib.hid hfin
            have HTR : Hid (TT.2 = WE) := Lib.hid (by rw [← HTT.out.2, if_pos (by rw [hbz2]; exact e3), hbz2])
            rw [hbz2] at HFI
            clear hfin hbz2 hbg e3
            go_wp2_with fail

            go_ret
            rw [HTR.out]
            exact ⟨rfl, ⟨tv, HFI.out.1.1, HFI.out.1.2.1, fun g _ => .inl rfl, HFI.out.1.2.2⟩, HFI.out.2⟩
    · clear r4
      have hbg := HBG.out
      rw [if_pos e2] at hbg
      have HBG := Lib.hid hbg
      have eb : ((r2.2 : Int) == 0) = false := by simpa using e2
      have en : ((r2.2 : Int) != 0) = true := by simpa using e2
      have c5 := H4.out.2.2.cell 5
      have f5 := H4.out.2.2.frozen 5
      simp only [RL.cells, HRW.out.2.2.2.2.2.2.1, List.getElem?_cons_zero, List.getElem?_cons_succ] at c5
      have hbz2 : bg.2 = r2.2 := by rw [← HBG.out]
      have hfin := HFIN.out w4 _ _ H4.out.1 H4.out.2.1 H4.out.2.2 (by rw [hbz2]; exact e2) (by rw [← HBG.out]) rfl
      have HFI := Lib.hid hfin
      have HTR : Hid (TT.2 = r2.2) := Lib.hid (by rw [← HTT.out.2, if_pos (by rw [hbz2]; exact e2), hbz2])
      rw [hbz2] at HFI
      clear hfin hbz2 hbg e2
      go_wp2_with fail

      go_ret
      rw [HTR.out]
      exact ⟨rfl, ⟨tv, HFI.out.1.1, HFI.out.1.2.1, fun g _ => .inl rfl, HFI.out.1.2.2⟩, HFI.out.2⟩
  · have hbg := HTT.out.1
    rw [if_pos e1] at hbg
    have HBG := Lib.hid hbg
    have eb : ((r1.2 : Int) == 0) = false := by simpa using e1
    have en : ((r1.2 : Int) != 0) = true := by simpa using e1
    have c5 := H3.out.2.2.cell 5
    have f5 := H3.out.2.2.frozen 5
    simp only [RL.cells, HRW.out.2.2.2.2.2.2.1, List.getElem?_cons_zero, List.getElem?_cons_succ] at c5
    have hbz2 : bg.2 = r1.2 := by rw [← HBG.out]
    have hfin := HFIN.out w3 _ _ H3.out.1 H3.out.2.1 H3.out.2.2 (by rw [hbz2]; exact e1) (by rw [← HBG.out]) rfl
    have HFI := Lib.hid hfin
    have HTR : Hid (TT.2 = r1.2) := Lib.hid (by rw [← HTT.out.2, if_pos (by rw [hbz2]; exact e1), hbz2])
    rw [hbz2] at HFI
    clear hfin hbz2 hbg e1
    go_wp2_with fail

    go_ret
    rw [HTR.out]
    exact ⟨rfl, ⟨tv, HFI.out.1.1, HFI.out.1.2.1, fun g _ => .inl rfl, HFI.out.1.2.2⟩, HFI.out.2⟩
theorem refRenew_any (hr : Row w lp 37 (r.cells p tv)) (htv : w.ownsRow 0 9 1 tv r.texts.length r.vals) (hd : RefIs L w p D) (hL : ∀ k, L k → k < w.heap.size) (hlp : L lp) (hlt : ∀ g, tv.ownBlock = some g → L g)
    (hhf : r.half ≤ 1) (hnm : r.num ≤ 1000000) (hs : D.steps ≤ 900000) (hhg : D.hangs.length ≤ 900000) (t : List UInt8) (h1 : t.length ≤ 90000) :
    Calls Tryz.prog 15 #[.pointer (some ⟨lp, 0, none⟩), .string (tx t)] w fun e w' => e = .returned (.int .i64 (r.renew D t).2) ∧
      (∃ tv', Row w' lp 37 ((r.renew D t).1.1.cells p tv') ∧ w'.ownsRow 0 9 1 tv' (r.renew D t).1.1.texts.length (r.renew D t).1.1.vals ∧ (∀ g, tv'.ownBlock = some g → tv' = tv ∨ w.heap.size ≤ g) ∧
      RefIs (fun k => L k ∨ tv'.ownBlock = some k) w' p (r.renew D t).1.2) ∧ Keeps (fun k => L k ∧ k ≠ lp) w w' := by
  have hless : RefIs (fun k => L k ∨ tv.ownBlock = some k) w p D := hd.less (fun g hg => by
    rcases hg with h | h
    · exact h
    · exact hlt g h)
  by_cases hl : r.lost = 0
  · by_cases h2 : t.length + 28 ≤ secs D * 128
    · exact refRenew_room hr htv hd hL hlp hlt hhf hnm hs hhg hl t h1 h2
    · have e : r.renew D t = ((r, D), 14) := by unfold RL.renew; rw [if_neg (by simp [hl]), if_pos (by omega)]
      rw [e]
      refine (refRenew_full hr hd hl t h1 (by omega)).mono ?_
      rintro e w' ⟨rfl, hb⟩
      exact ⟨rfl, ⟨tv, hr.below hb hr.lt, own_kept htv (fun g hg => hb.block g (own_blk_lt htv hg)), fun g _ => .inl rfl, hless.below hb⟩, Keeps.of_below hb (fun k h _ => h)⟩
  · have e : r.renew D t = ((r, D), r.lost) := by unfold RL.renew; rw [if_pos hl]
    rw [e]
    refine (refRenew_lost hr hl t).mono ?_
    rintro e w' ⟨rfl, rfl⟩
    exact ⟨rfl, ⟨tv, hr, htv, fun g _ => .inl rfl, hless⟩, Keeps.refl _ _⟩
end
end Go.Proofs.YtiaaeniopjpfpaaGreatDoor

namespace Go.Proofs.YtiaaeniopjpfpaaGreatDoor
open Go Go.RowKit Go.Maps
set_option linter.unusedVariables false
set_option linter.unusedSimpArgs false

section
variable {L : Nat → Prop} {w : World} {lp p gl gm : Nat} {hv : Value} {Dm : DataW Unit} {D : DS} {g : LG}
set_option maxRecDepth 4000 in
theorem Add_err (hr : Row w lp 83 (g.cells p)) (he : g.err ≠ 0) (T : ByteArray) :
    Calls Tryz.prog 16 #[.pointer (some ⟨lp, 0, none⟩), .string T] w fun e w' => e = .returned (.int .i64 g.err) ∧ w = w' := by
  have HERR := Lib.hid (Err_any hr)
  obtain ⟨x, hx⟩ : ∃ x, g.err = x := ⟨_, rfl⟩
  rw [hx] at HERR he ⊢
  have hb : ((x : Int) != 0) = true := by simpa using he
  clear hr he hx
  go_enter Tryz.func16, Tryz.ntmps16
  go_wp2_with fail
  refine HERR.out.mono ?_
  rintro e w1 ⟨rfl, rfl⟩
  go_wp2_with fail
  go_ret
  exact ⟨rfl, rfl⟩
set_option maxRecDepth 4000 in
theorem Add_long (hr : Row w lp 83 (g.cells p)) (he : g.err = 0) (t : List UInt8) (h1 : 16384 < t.length) (h2 : t.length ≤ 100000) :
    Calls Tryz.prog 16 #[.pointer (some ⟨lp, 0, none⟩), .string (tx t)] w fun e w' => e = .returned (.int .i64 5) ∧ w = w' := by
  have HERR := Lib.hid (Err_any hr)
  rw [he] at HERR
  have hs : (tx t).size = t.length := tx_size t
  obtain ⟨n, hn⟩ : ∃ n, t.length = n := ⟨_, rfl⟩
  rw [hn] at hs h1 h2
  have h1I : (16384 : Int) < (n : Int) := by omega
  have h2I : (n : Int) ≤ 100000 := by omega
  clear hr he hn h1 h2
  go_enter Tryz.func16, Tryz.ntmps16
  go_wp2_with fail
  refine HERR.out.mono ?_
  rintro e w1 ⟨rfl, rfl⟩
  go_wp2_with fail
  go_ret
  exact ⟨rfl, rfl⟩
set_option maxRecDepth 4000 in
theorem Add_full (hr : Row w lp 83 (g.cells p)) (hd : DiskIs L w p D) (hu : g.used ≤ secs D * 128) (he : g.err = 0) (t : List UInt8) (h1 : t.length ≤ 16384) (hroom : secs D * 128 - g.used < t.length + 28) :
    Calls Tryz.prog 16 #[.pointer (some ⟨lp, 0, none⟩), .string (tx t)] w fun e w' => e = .returned (.int .i64 14) ∧ Below w.heap.size w w' := by
  obtain ⟨gl0, gm0, hv0, Dm0, hd0⟩ := id hd
  have HERR := Lib.hid (Err_any hr)
  have HLEFT := Lib.hid (Left_any hr hd0 hu)
  rw [he] at HERR
  obtain ⟨room, hrm⟩ : ∃ r, secs D * 128 - g.used = r := ⟨_, rfl⟩
  rw [hrm] at HLEFT hroom
  have hs : (tx t).size = t.length := tx_size t
  obtain ⟨n, hn⟩ : ∃ n, t.length = n := ⟨_, rfl⟩
  rw [hn] at hs h1 hroom
  have h1I : (n : Int) ≤ 16384 := by omega
  have h2I : (room : Int) < (n : Int) + 28 := by omega
  have HN : Hid (∀ W, Calls Tryz.prog 28 #[.int .i64 (n : Nat)] W fun e w' => e = .returned (.int .i64 ((n : Int) + 28)) ∧ W = w') := Lib.hid fun W => Need_any n (by omega) W
  clear hr hd hd0 hu he hrm hn h1 hroom
  go_enter Tryz.func16, Tryz.ntmps16
  go_wp2_with fail
  refine HERR.out.mono ?_
  rintro e w1 ⟨rfl, rfl⟩
  go_wp2_with fail
  refine (HN.out _).mono ?_
  rintro e w1 ⟨rfl, rfl⟩
  go_wp2_with fail
  refine HLEFT.out.mono ?_
  rintro e w2 ⟨rfl, hb⟩
  have HB := Lib.hid hb
  clear hb
  go_wp2_with fail
  go_ret
  exact ⟨rfl, HB.out⟩
set_option maxRecDepth 4000 in
theorem Renew_err (hr : Row w lp 83 (g.cells p)) (he : g.err ≠ 0) (T : ByteArray) :
    Calls Tryz.prog 13 #[.pointer (some ⟨lp, 0, none⟩), .string T] w fun e w' => e = .returned (.int .i64 g.err) ∧ w = w' := by
  have HERR := Lib.hid (Err_any hr)
  obtain ⟨x, hx⟩ : ∃ x, g.err = x := ⟨_, rfl⟩
  rw [hx] at HERR he ⊢
  have hb : ((x : Int) != 0) = true := by simpa using he
  clear hr he hx
  go_enter Tryz.func13, Tryz.ntmps13
  go_wp2_with fail
  refine HERR.out.mono ?_
  rintro e w1 ⟨rfl, rfl⟩
  go_wp2_with fail
  go_ret
  exact ⟨rfl, rfl⟩
set_option maxRecDepth 4000 in
theorem Renew_full (hr : Row w lp 83 (g.cells p)) (hd : DiskIs L w p D) (he : g.err = 0) (t : List UInt8) (h1 : t.length ≤ 90000) (hroom : secs D * 128 < t.length + 28) :
    Calls Tryz.prog 13 #[.pointer (some ⟨lp, 0, none⟩), .string (tx t)] w fun e w' => e = .returned (.int .i64 14) ∧ Below w.heap.size w w' := by
  obtain ⟨gl0, gm0, hv0, Dm0, hd0⟩ := id hd
  have HERR := Lib.hid (Err_any hr)
  have HSZ := Lib.hid (size_any hr hd0)
  rw [he] at HERR
  obtain ⟨room, hrm⟩ : ∃ r, secs D * 128 = r := ⟨_, rfl⟩
  rw [hrm] at HSZ hroom
  have hs : (tx t).size = t.length := tx_size t
  obtain ⟨n, hn⟩ : ∃ n, t.length = n := ⟨_, rfl⟩
  rw [hn] at hs h1 hroom
  have h1I : (n : Int) ≤ 90000 := by omega
  have h2I : (room : Int) < (n : Int) + 28 := by omega
  have HN : Hid (∀ W, Calls Tryz.prog 28 #[.int .i64 (n : Nat)] W fun e w' => e = .returned (.int .i64 ((n : Int) + 28)) ∧ W = w') := Lib.hid fun W => Need_any n (by omega) W
  clear hr hd hd0 he hrm hn h1 hroom
  go_enter Tryz.func13, Tryz.ntmps13
  go_wp2_with fail
  refine HERR.out.mono ?_
  rintro e w1 ⟨rfl, rfl⟩
  go_wp2_with fail
  refine (HN.out _).mono ?_
  rintro e w1 ⟨rfl, rfl⟩
  go_wp2_with fail
  refine HSZ.out.mono ?_
  rintro e w2 ⟨rfl, rfl⟩
  go_wp2_with fail
  go_ret
  exact ⟨rfl, Below.refl _ _⟩
theorem Add_all (hG : G w) (hL : ∀ k, L k → k < w.heap.size) (hlp : L lp) (hr : Row w lp 83 (g.cells p)) (hd : DiskIs L w p D) (hh : g.half ≤ 1) (hu : g.used ≤ secs D * 128) (hct : g.count ≤ 1000000000)
    (hs : D.steps ≤ 1000000) (hhg : D.hangs.length ≤ 1000000) (t : List UInt8) (ht : t.length ≤ 100000) :
    Calls Tryz.prog 16 #[.pointer (some ⟨lp, 0, none⟩), .string (tx t)] w fun e w' => e = .returned (.int .i64 (g.add D t).2) ∧ Row w' lp 83 ((g.add D t).1.1.cells p) ∧ DiskIs L w' p (g.add D t).1.2 ∧ Keeps (fun k => L k ∧ k ≠ lp) w w' := by
  by_cases he : g.err = 0
  · by_cases h1 : t.length ≤ 16384
    · by_cases h2 : t.length + 28 ≤ secs D * 128 - g.used
      · exact Add_any hG hL hlp hr hd hh hu hct hs hhg t he h1 h2
      · have e : g.add D t = ((g, D), 14) := by unfold LG.add; rw [if_neg (by simp [he]), if_neg (by omega), if_pos (by omega)]
        rw [e]
        refine (Add_full hr hd hu he t h1 (by omega)).mono ?_
        rintro e w' ⟨rfl, hb⟩
        exact ⟨rfl, hr.below hb hr.lt, hd.below hb, Keeps.of_below hb (fun k h _ => h)⟩
    · have e : g.add D t = ((g, D), 5) := by unfold LG.add; rw [if_neg (by simp [he]), if_pos (by omega)]
      rw [e]
      refine (Add_long hr he t (by omega) ht).mono ?_
      rintro e w' ⟨rfl, rfl⟩
      exact ⟨rfl, hr, hd, Keeps.refl _ _⟩
  · have e : g.add D t = ((g, D), g.err) := by unfold LG.add; rw [if_pos he]
    rw [e]
    refine (Add_err hr he _).mono ?_
    rintro e w' ⟨rfl, rfl⟩
    exact ⟨rfl, hr, hd, Keeps.refl _ _⟩
def LG.renewT (g : LG) (D : DS) (t : List UInt8) : (LG × DS) × Int :=
  if g.err ≠ 0 then ((g, D), g.err) else if secs D * 128 < t.length + 28 then ((g, D), 14) else g.renew D t
theorem Renew_all (hG : G w) (hLG : L 0) (hL : ∀ k, L k → k < w.heap.size) (hlp : L lp) (hne : 0 ≠ lp) (hr : Row w lp 83 (g.cells p)) (hd : DiskIs L w p D) (hh : g.half ≤ 1) (hnum : g.num + 1 < 18446744073709551616)
    (hs : D.steps ≤ 900000) (hhg : D.hangs.length ≤ 900000) (t : List UInt8) (ht : t.length ≤ 90000) :
    Calls Tryz.prog 13 #[.pointer (some ⟨lp, 0, none⟩), .string (tx t)] w fun e w' => e = .returned (.int .i64 (g.renewT D t).2) ∧ Row w' lp 83 ((g.renewT D t).1.1.cells p) ∧ DiskIs L w' p (g.renewT D t).1.2 ∧ Keeps (fun k => L k ∧ k ≠ lp) w w' := by
  by_cases he : g.err = 0
  · by_cases h2 : t.length + 28 ≤ secs D * 128
    · have e : g.renewT D t = g.renew D t := by unfold LG.renewT; rw [if_neg (by simp [he]), if_neg (by omega)]
      rw [e]
      exact Renew_any hG hLG hL hlp hne hr hd hh hnum hs hhg t he h2 (by omega)
    · have e : g.renewT D t = ((g, D), 14) := by unfold LG.renewT; rw [if_neg (by simp [he]), if_pos (by omega)]
      rw [e]
      refine (Renew_full hr hd he t ht (by omega)).mono ?_
      rintro e w' ⟨rfl, hb⟩
      exact ⟨rfl, hr.below hb hr.lt, hd.below hb, Keeps.of_below hb (fun k h _ => h)⟩
  · have e : g.renewT D t = ((g, D), g.err) := by unfold LG.renewT; rw [if_pos he]
    rw [e]
    refine (Renew_err hr he _).mono ?_
    rintro e w' ⟨rfl, rfl⟩
    exact ⟨rfl, hr, hd, Keeps.refl _ _⟩
end
/-- An act: whether it is a Renew, how many bytes, which. -/
structure AL where
  anew : Bool
  n : Nat
  b : UInt8
def AL.text (a : AL) : List UInt8 := List.replicate (a.n % 17000) a.b
def AL.v (a : AL) : Value := .agg #[.bool a.anew, .int .u16 (a.n : Nat), .int .u8 a.b.toNat]
set_option maxRecDepth 20000 in
set_option maxHeartbeats 1000000 in
theorem actText_any (a : AL) (hn : a.n < 65536) (w : World) :
    Calls Tryz.prog 14 #[a.v] w fun e w' => e = .returned (.string (tx a.text)) ∧ Below w.heap.size w w' := by
  obtain ⟨an, n, b⟩ := a
  obtain ⟨m, hm⟩ : ∃ m, n % 17000 = m := ⟨_, rfl⟩
  have hnI : (n : Int) < 65536 := by simp only at hn; omega
  have hmI : (n : Int) % 17000 = (m : Int) := by omega
  have hm0 : (m : Int) < 17000 := by omega
  have htxt : AL.text ⟨an, n, b⟩ = List.replicate m b := by unfold AL.text; rw [hm]
  rw [htxt]
  obtain ⟨i0, hi, hz0, hz1, hz2⟩ := info_parts u8_info3
  have hmk := fun W => make_row (P := Tryz.prog) 87 5 i0 (.int .u8 0) Tryz.underlying87 hi hz0 rfl hz1 m (by rw [hz2]; omega) (by omega) W
  have hmk2 : ∀ W, (Instr.makeSlice 87 (.int .u16 (m : Nat)) (.int .u16 (m : Nat))).run Tryz.prog W = .ok (.slice (some ⟨W.heap.size, 0, none⟩) m m) (W.alloc (.cells (List.replicate m (Value.int .u8 0)).toArray 5)) := fun W => by
    rw [← hmk W]
    rfl
  simp only [List.toArray_replicate] at hmk2
  clear hmk hi hz0 hz1 hz2 htxt hm hn
  unfold AL.v
  simp only
  go_enter Tryz.func14, Tryz.ntmps14
  go_wp2_with fail
  have B2 : Below w.heap.size w ((w.alloc (.cells #[.bool an, .int .u16 (n : Nat), .int .u8 b.toNat] 40)).alloc (.cells (Array.replicate m (Value.int .u8 0)) 5)) := ((Below.refl w.heap.size w).alloc (Nat.le_refl _) _).alloc (by simp) _
  have r0 : Row ((w.alloc (.cells #[.bool an, .int .u16 (n : Nat), .int .u8 b.toNat] 40)).alloc (.cells (Array.replicate m (Value.int .u8 0)) 5)) w.heap.size 40 [.bool an, .int .u16 (n : Nat), .int .u8 b.toNat] := (Row.new w 40 [.bool an, .int .u16 (n : Nat), .int .u8 b.toNat]).alloc _
  have r1 : Row ((w.alloc (.cells #[.bool an, .int .u16 (n : Nat), .int .u8 b.toNat] 40)).alloc (.cells (Array.replicate m (Value.int .u8 0)) 5)) (w.heap.size + 1) 5 ((List.replicate 0 b ++ List.replicate (m - 0) 0).map bv) := by
    have h := Row.new (w.alloc (.cells #[.bool an, .int .u16 (n : Nat), .int .u8 b.toNat] 40)) 5 (List.replicate m (Value.int .u8 0))
    rw [World.size_alloc, List.toArray_replicate] at h
    rw [List.replicate_zero, List.nil_append, Nat.sub_zero, List.map_replicate]
    exact h
  have H0 := Lib.hid (And.intro B2 (And.intro r0 r1))
  clear B2 r0 r1 hmk2 hmI hnI
  generalize (w.alloc (.cells #[.bool an, .int .u16 (n : Nat), .int .u8 b.toNat] 40)).alloc (.cells (Array.replicate m (Value.int .u8 0)) 5) = w1 at H0 ⊢
  go_loopw [11] (fun i wr => ∃ j : Nat, j ≤ m ∧ i = .int .i64 j ∧ Row wr (w.heap.size + 1) 5 ((List.replicate j b ++ List.replicate (m - j) 0).map bv) ∧ Row wr w.heap.size 40 [.bool an, .int .u16 (n : Nat), .int .u8 b.toNat] ∧ Below w.heap.size w wr) (fun i _ => m - (intOf i).toNat)
  case atStart => exact ⟨0, Nat.zero_le _, rfl, H0.out.2.2, H0.out.2.1, H0.out.1⟩
  case round =>
    obtain ⟨j, hj, rfl, hr1, hr0, hb⟩ := hrel
    by_cases hlt : j < m
    · have c2 := hr0.cell 2
      simp only [List.getElem?_cons_zero, List.getElem?_cons_succ] at c2
      have hcell : wr.cell? ⟨w.heap.size + 1, j, none⟩ = some (.int .u8 0) := by
        rw [hr1.cell, List.getElem?_map, List.getElem?_append_right (by rw [List.length_replicate]; omega), List.length_replicate, List.getElem?_replicate, if_pos (by omega)]
        rfl
      have hfr := hr1.frozen j
      have r3 := hr1.set j (bv b)
      have e3 : ((List.replicate j b ++ List.replicate (m - j) 0).map bv).set j (bv b) = (List.replicate (j + 1) b ++ List.replicate (m - (j + 1)) 0).map bv := by
        rw [← List.map_set]
        congr 1
        rw [List.set_append_right _ _ (by rw [List.length_replicate]; omega), List.length_replicate, Nat.sub_self, show m - j = (m - (j + 1)) + 1 by omega, List.replicate_succ, List.set_cons_zero, List.replicate_succ', List.append_assoc]
        rfl
      rw [e3] at r3
      have b3 := hb.setCell (p := ⟨w.heap.size + 1, j, none⟩) (by show w.heap.size ≤ w.heap.size + 1; omega) (bv b)
      have r03 := hr0.far (p := ⟨w.heap.size + 1, j, none⟩) (by show w.heap.size ≠ w.heap.size + 1; omega) (bv b)
      have H3 := Lib.hid (And.intro r3 (And.intro r03 b3))
      clear hr1 hr0 hb r3 b3 r03 e3
      go_wp2_with fail
      go_roundw
      case rel => exact ⟨j + 1, by omega, by go_num, H3.out.1, H3.out.2.1, H3.out.2.2⟩
      case measure => simp [intOf]; omega
    · obtain rfl : j = m := by omega
      have hcv := conv_bytes wr 87 9 5 Tryz.underlying87 Tryz.underlying5 Tryz.underlying9 (w.heap.size + 1) 0 j j (List.replicate j b) (List.length_replicate ..) (fun i hi => by
        rw [hr1.cell, Nat.zero_add, Nat.sub_self, List.replicate_zero, List.append_nil])
      have hcv2 : (convert 87 9 (.slice (some ⟨w.heap.size + 1, 0, none⟩) j j)).run Tryz.prog wr = .ok (.string (tx (List.replicate j b))) wr := hcv
      have HB := Lib.hid hb
      clear hcv hr1 hr0 hb
      go_wp2_with fail
      go_ret
      exact ⟨rfl, HB.out⟩
end Go.Proofs.YtiaaeniopjpfpaaGreatDoor

namespace Go.Proofs.YtiaaeniopjpfpaaGreatDoor
open Go Go.RowKit Go.Maps
set_option linter.unusedVariables false
set_option linter.unusedSimpArgs false

theorem written_len (D : DS) (k : Int) (b : List UInt8) : (D.written k b).lasts.length = D.lasts.length := by
  have h := congrArg List.length (stepped_same D).1
  unfold DS.written
  split
  · rfl
  · split
    · exact h
    · exact h
theorem synced_len (D : DS) : D.synced.lasts.length = D.lasts.length := by
  have h := congrArg List.length (stepped_same D).1
  unfold DS.synced
  split
  · show D.settled.length = _
    simp [DS.settled]
  · exact h
theorem putG_len (n : Nat) (D : DS) (a : Nat) (l : List UInt8) : (putG n D a l).1.lasts.length = D.lasts.length := by
  induction n generalizing D a l with
  | zero => exact synced_len D
  | succ n ih =>
    unfold putG
    split
    · exact synced_len D
    · split
      · exact written_len D _ _
      · exact (ih _ _ _).trans (written_len D _ _)
theorem secs_same {D D' : DS} (h : D'.lasts.length = D.lasts.length) : secs D' = secs D := by unfold secs; rw [h]
theorem putAt_live (g : LG) (n : Nat) (D : DS) (bs : List UInt8) (hd : D.down = false) (hin : 2 + g.half * secs D < D.lasts.length) : g.putAt n 0 D bs = putG n D (2 + g.half * secs D + 0) bs := by
  unfold LG.putAt
  rw [Nat.zero_div, Nat.zero_mod, List.take_zero, List.nil_append, if_neg (by rw [fault_in hd _ (by omega)]; simp)]
theorem begins_live (g : LG) (D : DS) (t : List UInt8) (hd : D.down = false) (hin : 2 + g.half * secs D < D.lasts.length) (hsec : secs D * 128 ≤ 2100 * 128) : g.begins D t = refBegins g.num g.half D (frameL 1 t) := by
  unfold LG.begins refBegins
  rw [putAt_live g 2100 D _ hd hin]
  obtain ⟨r1, hr1⟩ : ∃ x, putG 2100 D (2 + g.half * secs D + 0) (List.replicate (secs D * 128) 0) = x := ⟨_, rfl⟩
  have hl := putG_len 2100 D (2 + g.half * secs D + 0) (List.replicate (secs D * 128) 0)
  have hw := putG_wrote 2100 D (2 + g.half * secs D + 0) (List.replicate (secs D * 128) 0) (by rw [List.length_replicate]; exact hsec)
  rw [hr1] at hl hw ⊢
  by_cases h1 : r1.2 = 0
  · simp only [h1, ne_eq, not_true_eq_false, if_false]
    rw [putAt_live g 2100 r1.1 _ (hw h1).down (by rw [secs_same hl, hl]; exact hin)]
  · rw [if_pos h1, if_pos h1]
theorem begins_reff (num half : Nat) (D : DS) (F : List UInt8) : (refBegins num half D.reff F).2 = (refBegins num half D F).2 ∧ (refBegins num half D.reff F).1 = (refBegins num half D F).1.reff := by
  unfold refBegins
  have hs : secs D.reff = secs D := rfl
  rw [hs]
  have h1 := putG_reff 2100 D (2 + half * secs D + 0) (List.replicate (secs D * 128) 0)
  obtain ⟨r1, hr1⟩ : ∃ x, putG 2100 D (2 + half * secs D + 0) (List.replicate (secs D * 128) 0) = x := ⟨_, rfl⟩
  obtain ⟨q1, hq1⟩ : ∃ x, putG 2100 D.reff (2 + half * secs D + 0) (List.replicate (secs D * 128) 0) = x := ⟨_, rfl⟩
  rw [hr1, hq1] at h1
  rw [hr1, hq1]
  obtain ⟨q1a, q1b⟩ := q1
  obtain ⟨e1, e2⟩ := h1
  simp only at e1 e2
  subst e1 e2
  by_cases h1 : r1.2 = 0
  · have hs1 : secs r1.1.reff = secs r1.1 := rfl
    simp only [h1, ne_eq, not_true_eq_false, if_false, hs1]
    have h2 := putG_reff 2100 r1.1 (2 + half * secs r1.1 + 0) F
    obtain ⟨r2, hr2⟩ : ∃ x, putG 2100 r1.1 (2 + half * secs r1.1 + 0) F = x := ⟨_, rfl⟩
    obtain ⟨q2, hq2⟩ : ∃ x, putG 2100 r1.1.reff (2 + half * secs r1.1 + 0) F = x := ⟨_, rfl⟩
    rw [hr2, hq2] at h2
    rw [hr2, hq2]
    obtain ⟨q2a, q2b⟩ := q2
    obtain ⟨e1, e2⟩ := h2
    simp only at e1 e2
    subst e1 e2
    by_cases h2 : r2.2 = 0
    · simp only [h2, ne_eq, not_true_eq_false, if_false]
      rw [reff_writeErr]
      split
      · exact ⟨rfl, (reff_written _ _ _).symm⟩
      · rw [← reff_written, reff_stepErr, ← reff_synced]
        exact ⟨rfl, rfl⟩
    · simp only [h2, ne_eq, not_false_eq_true, if_true]
      exact ⟨trivial, trivial⟩
  · simp only [h1, ne_eq, not_false_eq_true, if_true]
    exact ⟨trivial, trivial⟩
theorem bytes_else {D D' : DS} {a : Nat} {l : List UInt8} (hw : Wrote D D' a l) (hd : D.down = false) (b S : Nat) (hin : b + S ≤ D.lasts.length) (h : b + S ≤ a ∨ a * 128 + l.length ≤ b * 128) : bytesN D' b S = bytesN D b S := by
  induction S with
  | zero => rfl
  | succ S ih =>
    unfold bytesN
    rw [ih (by omega) (by omega), read_else hw hd (b + S) (by omega) (by omega)]

/-- A put behind what there is. -/
theorem bytes_put2 {D D' : DS} (hrl : ∀ k, (D.read k).length = 128) (a S : Nat) (bytes f : List UInt8) (z : Nat) (hd : D.down = false) (hin : a + S ≤ D.lasts.length) (hc : bytesN D a S = bytes ++ List.replicate z 0)
    (hw : Wrote D D' (a + bytes.length / 128) (bytes.drop (bytes.length / 128 * 128) ++ f)) (hfit : bytes.length + f.length ≤ S * 128) :
    bytesN D' a S = (bytes ++ f) ++ List.replicate (S * 128 - bytes.length - f.length) 0 := by
  have hlen := (bytesN_read D a (fun j => hrl _) S).1
  have hz : bytes.length + z = S * 128 := by
    rw [hc, List.length_append, List.length_replicate] at hlen
    exact hlen
  have hE : ((bytes ++ f) ++ List.replicate (S * 128 - bytes.length - f.length) (0 : UInt8)).length = S * 128 := by
    rw [List.length_append, List.length_append, List.length_replicate]
    omega
  have hold : ∀ j, j < S → D.read ((a + j : Nat) : Int) = ((bytes ++ List.replicate z 0).drop (j * 128)).take 128 := by
    intro j hj
    rw [← hc]
    exact (bytesN_read D a (fun j => hrl _) S).2 j hj
  have hb := bytesN_eq D' a ((bytes ++ f) ++ List.replicate (S * 128 - bytes.length - f.length) 0) S (fun j hj => ?_)
  · rw [hb, List.take_of_length_le (by omega)]
  · rw [read_blk hw.down (a + j) (by rw [hw.len]; omega), hw.read (a + j) (by omega)]
    have hq : bytes.length / 128 * 128 ≤ bytes.length := Nat.div_mul_le_self _ _
    have hll : (bytes.drop (bytes.length / 128 * 128) ++ f).length = bytes.length - bytes.length / 128 * 128 + f.length := by rw [List.length_append, List.length_drop]
    rw [hll]
    by_cases h1 : bytes.length / 128 ≤ j
    · have hdr : ∀ Y : List UInt8, (bytes ++ Y).drop (j * 128) = (bytes.drop (bytes.length / 128 * 128) ++ Y).drop ((j - bytes.length / 128) * 128) := fun Y => by
        have e : bytes ++ Y = bytes.take (bytes.length / 128 * 128) ++ (bytes.drop (bytes.length / 128 * 128) ++ Y) := by rw [← List.append_assoc, List.take_append_drop]
        have hl : (bytes.take (bytes.length / 128 * 128)).length = bytes.length / 128 * 128 := by rw [List.length_take]; omega
        conv => lhs; rw [e]
        rw [List.drop_append, List.drop_of_length_le (by rw [hl]; omega), List.nil_append, hl]
        congr 1
        omega
      by_cases h2 : j * 128 < bytes.length + f.length
      · rw [if_pos ⟨by omega, by omega⟩, show a + j - (a + bytes.length / 128) = j - bytes.length / 128 by omega]
        conv => rhs; rw [List.append_assoc, hdr, ← List.append_assoc, List.drop_append_of_le_length (by rw [hll]; omega), pad_take _ _ (by rw [List.length_drop, hll]; omega)]
      · rw [if_neg (by omega), ← read_blk hd (a + j) (by omega), hold j hj, List.drop_append, List.drop_of_length_le (by omega), List.nil_append, List.drop_replicate, List.take_replicate,
          List.drop_append, List.drop_of_length_le (by rw [List.length_append]; omega), List.nil_append, List.drop_replicate, List.take_replicate]
        congr 1
        rw [List.length_append]
        omega
    · rw [if_neg (by omega), ← read_blk hd (a + j) (by omega), hold j hj, List.append_assoc, List.drop_append_of_le_length (by omega), List.drop_append_of_le_length (by omega),
        List.take_append_of_le_length (by rw [List.length_drop]; omega), List.take_append_of_le_length (by rw [List.length_drop]; omega)]
theorem wrote_len {D D' : DS} {a : Nat} {l : List UInt8} (hw : Wrote D D' a l) (hd : D.down = false) (hrl : ∀ k, (D.read k).length = 128) (k : Int) : (D'.read k).length = 128 := by
  by_cases hf : D'.fault k = 0
  · obtain ⟨h1, h0, h2⟩ := fault_zero hf
    obtain ⟨j, rfl⟩ := Int.eq_ofNat_of_zero_le h0
    have hj : j < D.lasts.length := by rw [← hw.len]; omega
    rw [read_blk hw.down j (by rw [hw.len]; exact hj), hw.read j hj]
    split
    · exact pad128_length _
    · rw [← read_blk hd j hj]; exact hrl _
  · unfold DS.read
    rw [if_neg hf]
    simp [z128]
theorem pad_whole {l : List UInt8} (h : l.length = 128) : pad128 l = l := by
  unfold pad128
  rw [List.take_of_length_le (by omega), h]
  simp
/-- What is there behind a half begun anew. -/
theorem begins_after {D : DS} (hD : D.ok) (hdn : D.down = false) (num half : Nat) (hh : half ≤ 1) (F : List UInt8) (hF : F.length ≤ secs D * 128) :
    (refBegins num half D F).1.lasts.length = D.lasts.length ∧ (refBegins num half D F).1.steps ≤ D.steps + 4300 ∧ (refBegins num half D F).1.hangs.length ≤ D.hangs.length + 4300 ∧
    ((refBegins num half D F).2 = 0 → (refBegins num half D F).1.down = false ∧ bytesN (refBegins num half D F).1 (2 + half * secs D) (secs D) = F ++ List.replicate (secs D * 128 - F.length) 0 ∧
      (refBegins num half D F).1.read ((num % 2 : Nat) : Int) = markB num half ∧ ∀ j, j < 2 → j ≠ num % 2 → (refBegins num half D F).1.read ((j : Nat) : Int) = D.read ((j : Nat) : Int)) := by
  have hi : 2 + half * secs D + secs D ≤ D.lasts.length ∧ 0 < secs D ∧ secs D ≤ 2047 := by
    have h16 := hD.least
    have h4096 := hD.most
    rcases (by omega : half = 0 ∨ half = 1) with rfl | rfl <;> (unfold secs; omega)
  have hrl := fun k => read_len hD k
  unfold refBegins
  have c1 := putG_count 2100 D (2 + half * secs D + 0) (List.replicate (secs D * 128) 0)
  have l1 := putG_len 2100 D (2 + half * secs D + 0) (List.replicate (secs D * 128) 0)
  have w1 := putG_wrote 2100 D (2 + half * secs D + 0) (List.replicate (secs D * 128) 0) (by rw [List.length_replicate]; omega)
  obtain ⟨r1, hr1⟩ : ∃ x, putG 2100 D (2 + half * secs D + 0) (List.replicate (secs D * 128) 0) = x := ⟨_, rfl⟩
  rw [hr1] at c1 l1 w1 ⊢
  by_cases h1 : r1.2 = 0
  · simp only [h1, ne_eq, not_true_eq_false, if_false]
    have hw1 := w1 h1
    have hs1 := secs_same l1
    rw [hs1]
    have c2 := putG_count 2100 r1.1 (2 + half * secs D + 0) F
    have l2 := putG_len 2100 r1.1 (2 + half * secs D + 0) F
    have w2 := putG_wrote 2100 r1.1 (2 + half * secs D + 0) F (by omega)
    obtain ⟨r2, hr2⟩ : ∃ x, putG 2100 r1.1 (2 + half * secs D + 0) F = x := ⟨_, rfl⟩
    rw [hr2] at c2 l2 w2 ⊢
    by_cases h2 : r2.2 = 0
    · simp only [h2, not_true_eq_false, if_false]
      have hw2 := w2 h2
      have hput : putG 1 r2.1 (num % 2) (markB num half) = if r2.1.writeErr ((num % 2 : Nat) : Int) ≠ 0 then (r2.1.written ((num % 2 : Nat) : Int) (markB num half), r2.1.writeErr ((num % 2 : Nat) : Int))
          else ((r2.1.written ((num % 2 : Nat) : Int) (markB num half)).synced, (r2.1.written ((num % 2 : Nat) : Int) (markB num half)).stepErr) := by
        have hml := markB_length num half
        unfold putG
        rw [if_neg (by intro e; rw [e] at hml; cases hml), pad_whole hml, List.drop_of_length_le (by omega), putG_nil]
      have hgoal : (if ¬r2.1.writeErr ((num % 2 : Nat) : Int) = 0 then (r2.1.written ((num % 2 : Nat) : Int) (markB num half), r2.1.writeErr ((num % 2 : Nat) : Int))
          else ((r2.1.written ((num % 2 : Nat) : Int) (markB num half)).synced, (r2.1.written ((num % 2 : Nat) : Int) (markB num half)).stepErr)) = putG 1 r2.1 (num % 2) (markB num half) := hput.symm
      rw [hgoal]
      have c3 := putG_count 1 r2.1 (num % 2) (markB num half)
      have l3 := putG_len 1 r2.1 (num % 2) (markB num half)
      have w3 := putG_wrote 1 r2.1 (num % 2) (markB num half) (by rw [markB_length]; omega)
      obtain ⟨r3, hr3⟩ : ∃ x, putG 1 r2.1 (num % 2) (markB num half) = x := ⟨_, rfl⟩
      rw [hr3] at c3 l3 w3 ⊢
      refine ⟨by omega, by omega, by omega, fun h3 => ?_⟩
      have hw3 := w3 h3
      have hm2 : num % 2 < 2 := Nat.mod_lt _ (by omega)
      have hz1 : bytesN r1.1 (2 + half * secs D) (secs D) = List.replicate (secs D * 128) 0 := bytes_zero (2 + half * secs D) (secs D) (by omega) hw1
      have hb2 := bytes_put2 (D := r1.1) (D' := r2.1) (wrote_len hw1 hdn hrl) (2 + half * secs D) (secs D) [] F (secs D * 128) hw1.down (by omega) (by rw [hz1]; rfl) (by simpa using hw2) (by simpa using hF)
      have hb3 := bytes_else hw3 hw2.down (2 + half * secs D) (secs D) (by omega) (.inr (by rw [markB_length]; omega))
      refine ⟨hw3.down, ?_, ?_, fun j hj hne => ?_⟩
      · rw [hb3, hb2]
        simp
      · rw [read_blk hw3.down _ (by omega), hw3.read _ (by omega), if_pos ⟨Nat.le_refl _, by rw [markB_length]; omega⟩, Nat.sub_self, Nat.zero_mul, List.drop_zero, pad_whole (markB_length _ _)]
      · rw [read_else hw3 hw2.down j (by omega) (by rw [markB_length]; omega), read_else hw2 hw1.down j (by omega) (.inl (by omega)), read_else hw1 hdn j (by omega) (.inl (by omega))]
    · simp only [h2, not_false_eq_true, if_true]
      exact ⟨by omega, by omega, by omega, fun e => e.elim⟩
  · simp only [h1, ne_eq, not_false_eq_true, if_true]
    exact ⟨by omega, by omega, by omega, fun e => e.elim⟩

/-- The marks of a disk whose log is at a number, in a half. -/
def Marks (num half : Nat) (D : DS) : Prop :=
  D.read ((num % 2 : Nat) : Int) = (if num = 0 then z128 else markB num half) ∧ D.read (((num + 1) % 2 : Nat) : Int) = (if num ≤ 1 then z128 else markB (num - 1) (1 - half)) ∧ (num = 0 → half = 0)
/-- Both logs, while nothing is lost. -/
structure Both (g : LG) (D : DS) (r : RL) : Prop where
  num : g.num = r.num
  half : g.half = r.half
  hle : r.half ≤ 1
  count : g.count = r.texts.length
  used : g.used = r.bytes.length
  err : g.err = r.lost
  room : r.bytes.length ≤ secs D * 128
  cat : r.bytes = catF 1 r.texts
  tl : ∀ t ∈ r.texts, t.length < 4294967296
  live : r.lost = 0 → D.down = false ∧ bytesN D (2 + r.half * secs D) (secs D) = r.bytes ++ List.replicate (secs D * 128 - r.bytes.length) 0 ∧ Marks r.num r.half D
section
variable {g : LG} {D : DS} {r : RL}
theorem half_room (hD : D.ok) {h : Nat} (hh : h ≤ 1) : 2 + h * secs D + secs D ≤ D.lasts.length ∧ 0 < secs D ∧ secs D ≤ 2047 := by
  have h16 := hD.least
  have h4096 := hD.most
  rcases (by omega : h = 0 ∨ h = 1) with rfl | rfl <;> (unfold secs; omega)
theorem putR_same (h : Both g D r) (hD : D.ok) (hl : r.lost = 0) (f : List UInt8) (hf : f.length ≤ 20000) (hroom : r.bytes.length + f.length ≤ secs D * 128) (hf0 : 0 < f.length) :
    g.putR D f = r.putR D f ∧ (r.putR D.reff f).2 = (r.putR D f).2 ∧ (r.putR D.reff f).1 = (r.putR D f).1.reff := by
  obtain ⟨hdn, hby, hmk⟩ := h.live hl
  have hi := half_room hD h.hle
  obtain ⟨j, hj⟩ : ∃ j, r.bytes.length / 128 = j := ⟨_, rfl⟩
  have hjs : j < secs D := by omega
  have hrd := (bytesN_read D (2 + r.half * secs D) (fun j => read_len hD _) (secs D)).2 j hjs
  have hrest : (D.read ((2 + r.half * secs D + j : Nat) : Int)).take (r.bytes.length % 128) = r.bytes.drop (j * 128) := by
    rw [hrd, hby, List.take_take, List.drop_append_of_le_length (by omega), List.take_append_of_le_length (by rw [List.length_drop]; omega), List.take_of_length_le (by rw [List.length_drop]; omega)]
  have e : r.putR D f = putG 2100 D (2 + r.half * secs D + j) (r.bytes.drop (j * 128) ++ f) := by unfold RL.putR; rw [hj]
  refine ⟨?_, ?_⟩
  · rw [e]
    unfold LG.putR
    rw [h.used, h.half, hj, if_neg (by rw [fault_in hdn _ (by omega)]; simp), hrest]
    exact putG_fuel _ _ _ _ _ (by rw [List.length_append, List.length_drop]; omega) (by rw [List.length_append, List.length_drop]; omega)
  · have hr := putG_reff 2100 D (2 + r.half * secs D + j) (r.bytes.drop (j * 128) ++ f)
    rw [e]
    unfold RL.putR
    rw [hj]
    exact hr
/-- An Add, on both. -/
theorem both_add (h : Both g D r) (hD : D.ok) (t : List UInt8) (ht : t.length < 4294967296) :
    (r.add D.reff t).2 = (g.add D t).2 ∧ (r.add D.reff t).1.2 = (g.add D t).1.2.reff ∧ Both (g.add D t).1.1 (g.add D t).1.2 (r.add D.reff t).1.1 ∧ (g.add D t).1.2.steps ≤ D.steps + 300 ∧ (g.add D t).1.2.hangs.length ≤ D.hangs.length + 300 ∧ (g.add D t).1.1.num = g.num := by
  unfold LG.add RL.add
  have hs : secs D.reff = secs D := rfl
  rw [hs, h.err, h.count, h.used]
  by_cases hl : r.lost = 0
  · by_cases h1 : 16384 < t.length
    · simp only [hl, h1, ne_eq, not_true_eq_false, if_false, if_true]
      exact ⟨trivial, trivial, h, by omega, by omega, trivial⟩
    · by_cases h2 : secs D * 128 - r.bytes.length < t.length + 28
      · have h3 : secs D * 128 < r.bytes.length + (t.length + 28) := by have := h.room; omega
        simp only [hl, h1, h2, h3, ne_eq, not_true_eq_false, if_false, if_true]
        exact ⟨trivial, trivial, h, by omega, by omega, trivial⟩
      · have h3 : ¬ secs D * 128 < r.bytes.length + (t.length + 28) := by omega
        simp only [hl, h1, h2, h3, ne_eq, not_true_eq_false, if_false]
        obtain ⟨F, hF⟩ : ∃ F, frameL (r.texts.length + 1) t = F := ⟨_, rfl⟩
        have hFl : F.length = t.length + 28 := by rw [← hF, frameL_length]; omega
        rw [hF]
        obtain ⟨e1, e2, e3⟩ := putR_same h hD hl F (by omega) (by omega) (by omega)
        rw [e1, e2, e3]
        obtain ⟨q, hq⟩ : ∃ q, r.putR D F = q := ⟨_, rfl⟩
        have hcq := e1
        rw [hq] at hcq ⊢
        have hc := putG_count 200 D (2 + g.half * secs D + g.used / 128) ((D.read ((2 + g.half * secs D + g.used / 128 : Nat) : Int)).take (g.used % 128) ++ F)
        have hcnt : q.1.steps ≤ D.steps + 300 ∧ q.1.hangs.length ≤ D.hangs.length + 300 := by
          rw [← hcq]
          unfold LG.putR
          split
          · exact ⟨by show D.steps ≤ _; omega, by show D.hangs.length ≤ _; omega⟩
          · exact ⟨by omega, by omega⟩
        have hqe : putG 2100 D (2 + r.half * secs D + r.bytes.length / 128) (r.bytes.drop (r.bytes.length / 128 * 128) ++ F) = q := hq
        have hlen : q.1.lasts.length = D.lasts.length := by rw [← hqe]; exact putG_len _ _ _ _
        have hsec := secs_same hlen
        by_cases hz : q.2 = 0
        · simp only [hz, ne_eq, not_true_eq_false, if_false]
          obtain ⟨hdn, hby, hmk⟩ := h.live hl
          have hi := half_room hD h.hle
          have hw := putG_wrote 2100 D (2 + r.half * secs D + r.bytes.length / 128) (r.bytes.drop (r.bytes.length / 128 * 128) ++ F) (by rw [List.length_append, List.length_drop]; omega) (by rw [hqe]; exact hz)
          rw [hqe] at hw
          have hb := bytes_put hD (2 + r.half * secs D) (secs D) r.bytes F _ hdn (by omega) hby hw (by omega)
          refine ⟨trivial, trivial, ⟨h.num, h.half, h.hle, by show r.texts.length + 1 = _; rw [List.length_append]; rfl, by show r.bytes.length + (t.length + 28) = _; rw [List.length_append, hFl], rfl, ?_, ?_, ?_, fun _ => ⟨hw.down, ?_, ?_⟩⟩, hcnt.1, hcnt.2, trivial⟩
          · show (r.bytes ++ F).length ≤ secs q.1 * 128
            rw [hsec, List.length_append]
            omega
          · show r.bytes ++ F = catF 1 (r.texts ++ [t])
            rw [catF_snoc, ← h.cat, ← hF, Nat.add_comm 1]
          · intro x hx
            rcases List.mem_append.1 hx with hx | hx
            · exact h.tl x hx
            · rw [List.mem_singleton.1 hx]; exact ht
          · show bytesN q.1 (2 + r.half * secs q.1) (secs q.1) = (r.bytes ++ F) ++ _
            rw [hsec, hb, List.length_append, Nat.sub_sub]
          · have hm : ∀ j, j < 2 → q.1.read ((j : Nat) : Int) = D.read ((j : Nat) : Int) := fun j hj => read_else hw hdn j (by omega) (.inl (by omega))
            exact ⟨(hm _ (Nat.mod_lt _ (by omega))).trans hmk.1, (hm _ (Nat.mod_lt _ (by omega))).trans hmk.2.1, hmk.2.2⟩
        · simp only [hz, ne_eq, not_false_eq_true, if_true]
          exact ⟨trivial, trivial, ⟨h.num, h.half, h.hle, rfl, rfl, rfl, by show r.bytes.length ≤ secs q.1 * 128; rw [hsec]; exact h.room, h.cat, h.tl, fun e => absurd e hz⟩, hcnt.1, hcnt.2, trivial⟩
  · simp only [hl, ne_eq, not_false_eq_true, if_true]
    exact ⟨trivial, trivial, h, by omega, by omega, trivial⟩
/-- A Renew, on both. -/
theorem both_renew (h : Both g D r) (hD : D.ok) (t : List UInt8) (ht : t.length < 4294967296) :
    (r.renew D.reff t).2 = (g.renewT D t).2 ∧ (r.renew D.reff t).1.2 = (g.renewT D t).1.2.reff ∧ Both (g.renewT D t).1.1 (g.renewT D t).1.2 (r.renew D.reff t).1.1 ∧ (g.renewT D t).1.2.steps ≤ D.steps + 4300 ∧ (g.renewT D t).1.2.hangs.length ≤ D.hangs.length + 4300 ∧ (g.renewT D t).1.1.num ≤ g.num + 1 := by
  unfold LG.renewT RL.renew
  have hs : secs D.reff = secs D := rfl
  rw [hs, h.err]
  by_cases hl : r.lost = 0
  · by_cases h2 : secs D * 128 < t.length + 28
    · simp only [hl, h2, ne_eq, not_true_eq_false, if_false, if_true]
      exact ⟨trivial, trivial, h, by omega, by omega, by omega⟩
    · simp only [hl, h2, ne_eq, not_true_eq_false, if_false]
      obtain ⟨hdn, hby, hmk⟩ := h.live hl
      have hi := half_room hD (h := 1 - r.half) (by omega)
      have hg : (g.next t).begins D t = refBegins (r.num + 1) (1 - r.half) D (frameL 1 t) := by
        have e := begins_live (g.next t) D t hdn (by show 2 + (1 - g.half) * secs D < _; rw [h.half]; omega) (by omega)
        rw [e]
        show refBegins (g.num + 1) (1 - g.half) D _ = _
        rw [h.num, h.half]
      unfold LG.renew
      rw [hg]
      obtain ⟨F, hF⟩ : ∃ F, frameL 1 t = F := ⟨_, rfl⟩
      have hFl : F.length = t.length + 28 := by rw [← hF, frameL_length]; omega
      rw [hF]
      obtain ⟨e2, e3⟩ := begins_reff (r.num + 1) (1 - r.half) D F
      rw [e2, e3]
      obtain ⟨q, hq⟩ : ∃ q, refBegins (r.num + 1) (1 - r.half) D F = q := ⟨_, rfl⟩
      have ha := begins_after hD hdn (r.num + 1) (1 - r.half) (by omega) F (by omega)
      rw [hq] at ha ⊢
      obtain ⟨hlen, hc1, hc2, haft⟩ := ha
      have hsec := secs_same hlen
      by_cases hz : q.2 = 0
      · simp only [hz, ne_eq, not_true_eq_false, if_false]
        obtain ⟨hdn2, hb, hm1, hm2⟩ := haft hz
        refine ⟨trivial, trivial, ⟨?_, ?_, by show 1 - r.half ≤ 1; omega, rfl, by show t.length + 28 = _; rw [hFl], rfl, by show F.length ≤ secs q.1 * 128; rw [hsec]; omega, ?_, ?_, fun _ => ⟨hdn2, ?_, ?_⟩⟩, hc1, hc2, by show g.num + 1 ≤ _; omega⟩
        · show g.num + 1 = r.num + 1; rw [h.num]
        · show 1 - g.half = 1 - r.half; rw [h.half]
        · show F = catF 1 [t]
          rw [← hF]
          simp [catF]
        · intro x hx
          rw [List.mem_singleton.1 hx]; exact ht
        · show bytesN q.1 (2 + (1 - r.half) * secs q.1) (secs q.1) = F ++ _
          rw [hsec]
          exact hb
        · refine ⟨?_, ?_, fun e => by have : r.num + 1 = 0 := e; omega⟩
          · show q.1.read (((r.num + 1) % 2 : Nat) : Int) = if r.num + 1 = 0 then z128 else markB (r.num + 1) (1 - r.half)
            rw [if_neg (by omega)]
            exact hm1
          · show q.1.read (((r.num + 1 + 1) % 2 : Nat) : Int) = if r.num + 1 ≤ 1 then z128 else markB (r.num + 1 - 1) (1 - (1 - r.half))
            have e := hm2 ((r.num + 1 + 1) % 2) (Nat.mod_lt _ (by omega)) (by omega)
            rw [e, show (r.num + 1 + 1) % 2 = r.num % 2 by omega, hmk.1]
            by_cases hn : r.num = 0
            · rw [if_pos hn, if_pos (by omega)]
            · rw [if_neg hn, if_neg (by omega), Nat.add_sub_cancel, show 1 - (1 - r.half) = r.half by have := h.hle; omega]
      · simp only [hz, ne_eq, not_false_eq_true, if_true]
        exact ⟨trivial, trivial, ⟨h.num, h.half, h.hle, h.count, h.used, rfl, by show r.bytes.length ≤ secs q.1 * 128; rw [hsec]; exact h.room, h.cat, h.tl, fun e => absurd e hz⟩, hc1, hc2, by show g.num ≤ _; omega⟩
  · simp only [hl, ne_eq, not_false_eq_true, if_true]
    exact ⟨trivial, trivial, h, by omega, by omega, by omega⟩
end
end Go.Proofs.YtiaaeniopjpfpaaGreatDoor

namespace Go.Proofs.YtiaaeniopjpfpaaGreatDoor
open Go Go.RowKit Go.Maps
set_option linter.unusedVariables false
set_option linter.unusedSimpArgs false

theorem markB_cut (n h : Nat) : ((markB n h).drop 4).take 8 = putL n 8 ∧ ((markB n h).drop 12).take 8 = putL h 8 := by
  have e : ∃ X, markB n h = [67, 75, 77, 75] ++ (putL n 8 ++ (putL h 8 ++ X)) := by
    unfold markB markL sealL seal1
    exact ⟨_, by simp only [List.append_assoc]; rfl⟩
  obtain ⟨X, hX⟩ := e
  have l1 := putL_length 8 n
  have l2 := putL_length 8 h
  rw [hX]
  refine ⟨?_, ?_⟩
  · rw [List.drop_append, List.drop_of_length_le (by simp), List.nil_append]
    simp only [List.length_cons, List.length_nil, Nat.reduceAdd, Nat.sub_self, List.drop_zero]
    rw [List.take_append_of_le_length (by omega), List.take_of_length_le (by omega)]
  · rw [List.drop_append, List.drop_of_length_le (by simp), List.nil_append]
    simp only [List.length_cons, List.length_nil, Nat.reduceAdd, Nat.reduceSub]
    rw [List.drop_append, List.drop_of_length_le (by omega), List.nil_append, l1, Nat.sub_self, List.drop_zero, List.take_append_of_le_length (by omega), List.take_of_length_le (by omega)]
theorem marked_markB (n h : Nat) (hn : n < 18446744073709551616) (hh : h ≤ 1) : markedL (markB n h) = some (n, h) := by
  have hm : markNum (markB n h) = n := by
    unfold markNum
    rw [(markB_cut n h).1, getL_putL, Nat.mod_eq_of_lt (by omega)]
  unfold markedL
  rw [hm]
  rcases (by omega : h = 0 ∨ h = 1) with rfl | rfl
  · rw [if_pos rfl]
  · rw [if_neg, if_pos rfl]
    intro e
    have h1 := (markB_cut n 1).2
    rw [e, (markB_cut n 0).2] at h1
    have h2 := congrArg getL h1
    rw [getL_putL, getL_putL] at h2
    omega
theorem opened_marks {num half : Nat} {D : DS} (hm : Marks num half D) (hn : num < 18446744073709551615) (hh : half ≤ 1) : LG.opened D = ⟨num, half, 0, 0, 0⟩ := by
  obtain ⟨h1, h2, h0⟩ := hm
  have hz := marked_zeros
  show (LG.zero.pick (D.read ((0 : Nat) : Int))).pick (D.read ((1 : Nat) : Int)) = _
  rcases (by omega : num % 2 = 0 ∨ num % 2 = 1) with hp | hp
  · rw [hp] at h1
    rw [show (num + 1) % 2 = 1 by omega] at h2
    rw [h1, h2]
    by_cases hn0 : num = 0
    · rw [if_pos hn0, if_pos (by omega), hn0, h0 hn0]
      unfold LG.pick
      rw [hz]
      rfl
    · have hp1 : LG.zero.pick (markB num half) = ⟨num, half, 0, 0, 0⟩ := by
        unfold LG.pick
        rw [marked_markB num half (by omega) hh]
        show (if 0 ≤ num then _ else _) = _
        rw [if_pos (by omega)]
        rfl
      rw [if_neg hn0, if_neg (by omega), hp1]
      unfold LG.pick
      rw [marked_markB (num - 1) (1 - half) (by omega) (by omega)]
      show (if num ≤ num - 1 then _ else _) = _
      rw [if_neg (by omega)]
  · rw [hp] at h1
    rw [show (num + 1) % 2 = 0 by omega] at h2
    rw [if_neg (by omega : ¬ num = 0)] at h1
    rw [h1, h2]
    by_cases hn1 : num ≤ 1
    · have hp0 : LG.zero.pick z128 = LG.zero := by unfold LG.pick; rw [hz]
      rw [if_pos hn1, hp0]
      unfold LG.pick
      rw [marked_markB num half (by omega) hh]
      show (if 0 ≤ num then _ else _) = _
      rw [if_pos (by omega)]
      rfl
    · have hp0 : LG.zero.pick (markB (num - 1) (1 - half)) = ⟨num - 1, 1 - half, 0, 0, 0⟩ := by
        unfold LG.pick
        rw [marked_markB (num - 1) (1 - half) (by omega) (by omega)]
        show (if 0 ≤ num - 1 then _ else _) = _
        rw [if_pos (by omega)]
        rfl
      rw [if_neg hn1, hp0]
      unfold LG.pick
      rw [marked_markB num half (by omega) hh]
      show (if num - 1 ≤ num then _ else _) = _
      rw [if_pos (by omega)]
theorem putL_pos (j : Nat) (h1 : 1 ≤ j) (h2 : j < 4294967296) : putL j 4 ≠ [0, 0, 0, 0] := by
  intro e
  have h := congrArg getL e
  rw [getL_putL, Nat.mod_eq_of_lt (by omega), show getL [0, 0, 0, 0] = 0 from rfl] at h
  omega
/-- Opened again there are those. -/
theorem both_open {g : LG} {D : DS} {r : RL} (h : Both g D r) (hl : r.lost = 0) (hn : r.num < 18446744073709551615) (ht : r.texts.length ≤ 1000000) :
    LG.opened D = ⟨r.num, r.half, 0, 0, 0⟩ ∧ LG.opentexts D = endsF 0 r.texts ∧ LG.openG D = ⟨r.num, r.half, r.texts.length, r.bytes.length, 0⟩ ∧ D.down = false ∧ (Lib.trimRightB ((LG.opened D).bytes D) 0).length ≤ (LG.openG D).used := by
  obtain ⟨hdn, hb, hm⟩ := h.live hl
  have ho := opened_marks hm hn h.hle
  have hby : (LG.opened D).bytes D = r.bytes ++ List.replicate (secs D * 128 - r.bytes.length) 0 := by rw [ho]; exact hb
  have htx : LG.opentexts D = endsF 0 r.texts := by
    unfold LG.opentexts framesL
    rw [hby, h.cat]
    refine frames_cat r.texts _ 1 0 _ ?_ (fun j h1 h2 => putL_pos j h1 (by omega)) h.tl
    have := catF_length 1 r.texts
    rw [List.length_append]
    omega
  have hG : LG.openG D = ⟨r.num, r.half, r.texts.length, r.bytes.length, 0⟩ := by
    unfold LG.openG
    rw [htx, ho, endsF_length, usedL_ends 1 0 r.texts, ← h.cat, Nat.zero_add]
  refine ⟨ho, htx, hG, hdn, ?_⟩
  rw [hG, hby]
  exact trim_zeros _ _
theorem both_new (n : Nat) (hn : 16 ≤ n) (hn2 : n ≤ 4096) : Both LG.zero (newDS n) ⟨0, 0, [], [], 0⟩ := by
  have hr : ∀ j, (newDS n).read ((j : Nat) : Int) = z128 := fun j => by
    by_cases hj : j < (newDS n).lasts.length
    · rw [read_blk rfl j hj]
      have hj2 : j < n := by
        have : (newDS n).lasts.length = n := by simp [newDS]
        omega
      unfold DS.blk
      rw [show (newDS n).hangs = [] from rfl, lastAt_nil]
      show (List.replicate n z128).getD j [] = z128
      rw [List.getD_eq_getElem?_getD, List.getElem?_replicate, if_pos hj2]
      rfl
    · unfold DS.read
      rw [if_neg (by
        intro hf
        have := (fault_zero hf).2.2
        omega)]
  refine ⟨rfl, rfl, by decide, rfl, rfl, rfl, Nat.zero_le _, rfl, fun t ht => (by cases ht), fun _ => ⟨rfl, ?_, ⟨hr _, hr _, fun _ => rfl⟩⟩⟩
  rw [bytesN_eq (newDS n) _ (List.replicate (secs (newDS n) * 128) 0) _ (fun j hj => by
    rw [hr]
    rw [List.drop_replicate, List.take_replicate]
    unfold z128
    congr 1
    omega)]
  rw [List.take_of_length_le (by rw [List.length_replicate]; exact Nat.le_refl _)]
  rfl
end Go.Proofs.YtiaaeniopjpfpaaGreatDoor

namespace Go.Proofs.YtiaaeniopjpfpaaGreatDoor
open Go Go.RowKit Go.Maps
set_option linter.unusedVariables false
set_option linter.unusedSimpArgs false

/-- Both logs and their disks in memory, apart from each other and from T. -/
def TwoLogs (T : Nat → Prop) (w : World) (lp p kp q : Nat) (g : LG) (D : DS) (r : RL) (E : DS) : Prop :=
  ∃ tv : Value, Pair (fun k => T k ∨ k = lp ∨ k = kp ∨ tv.ownBlock = some k) w p q D E ∧ Row w lp 83 (g.cells p) ∧ Row w kp 37 (r.cells q tv) ∧
    w.ownsRow 0 9 1 tv r.texts.length r.vals ∧ ¬ T lp ∧ ¬ T kp ∧ (∀ k, tv.ownBlock = some k → ¬ T k)
section
variable {T : Nat → Prop} {w : World} {lp p kp q : Nat} {g g' : LG} {D D' : DS} {r r' : RL} {E E' : DS}
theorem rows_ne {t1 t2 : TypeId} {a b : Nat} {l1 l2 : List Value} (h1 : Row w a t1 l1) (h2 : Row w b t2 l2) (h : t1 ≠ t2) : a ≠ b := by
  rintro rfl
  unfold Row at h1 h2
  rw [h1] at h2
  injection h2 with h2
  injection h2 with _ h3
  exact h h3
theorem TwoLogs.below (h : TwoLogs T w lp p kp q g D r E) {w' : World} (hb : Below w.heap.size w w') : TwoLogs T w' lp p kp q g D r E := by
  obtain ⟨tv, hP, h1, h2, h3, h4⟩ := h
  exact ⟨tv, hP.below hb, h1.below hb h1.lt, h2.below hb h2.lt, own_kept h3 (fun k hk => hb.block k (own_blk_lt h3 hk)), h4⟩
/-- A method of the program's log. -/
theorem TwoLogs.prog {F : Nat} {args : Array Value} {Post : Ending → Prop} (h : TwoLogs T w lp p kp q g D r E)
    (hc : ∀ (S : Nat → Prop), (∀ k, S k → k < w.heap.size) → (∀ k, T k → S k) → S lp → DiskIs S w p D → Row w lp 83 (g.cells p) → Calls Tryz.prog F args w fun e w' => Post e ∧ Row w' lp 83 (g'.cells p) ∧ DiskIs S w' p D' ∧ Keeps (fun k => S k ∧ k ≠ lp) w w') :
    Calls Tryz.prog F args w fun e w' => Post e ∧ TwoLogs T w' lp p kp q g' D' r E ∧ Keeps T w w' := by
  obtain ⟨tv, ⟨S, hS, hTS, hd, hr⟩, h1, h2, h3, h4, h5, h6⟩ := h
  refine (hc S hS (fun k hk => hTS k (.inl hk)) (hTS lp (.inr (.inl rfl))) hd h1).mono ?_
  rintro e w1 ⟨he, hr1, hd1, hk⟩
  have hsz := hk.size
  have hne : kp ≠ lp := rows_ne h2 h1 (by decide)
  have hne2 : ∀ k, tv.ownBlock = some k → k ≠ lp := fun k hk e => own_ne h3 h1 (by decide) (by rw [hk, e])
  refine ⟨he, ⟨tv, ⟨S, fun k h => by have := hS k h; omega, hTS, hd1, ?_⟩, hr1, (hk.block kp h2.lt ⟨hTS kp (.inr (.inr (.inl rfl))), hne⟩).trans h2, own_kept h3 (fun k hq => hk.block k (own_blk_lt h3 hq) ⟨hTS k (.inr (.inr (.inr hq))), hne2 k hq⟩), h4, h5, h6⟩,
    hk.mono (fun k hq => ⟨hTS k (.inl hq), fun e => h4 (e ▸ hq)⟩)⟩
  refine RefIs.keeps (hr.more (fun k hg => ?_)) hk (fun k hg hn => ?_)
  · rcases hg with hg | ⟨hg1, hg2⟩
    · exact .inl (.inl hg)
    · by_cases hlt : k < w.heap.size
      · exact .inl (.inr ⟨hlt, hg2⟩)
      · exact .inr (by omega)
  · refine ⟨Classical.byContradiction fun hs => hn (.inr ⟨by omega, hs⟩), fun e => hn (.inl (.inr (.inl e)))⟩
/-- A method of the document's log. -/
theorem TwoLogs.ref {F : Nat} {args : Array Value} {Post : Ending → Prop} (h : TwoLogs T w lp p kp q g D r E)
    (hc : ∀ (S : Nat → Prop) (tv : Value), (∀ k, S k → k < w.heap.size) → S kp → (∀ k, tv.ownBlock = some k → S k) → RefIs S w q E → Row w kp 37 (r.cells q tv) → w.ownsRow 0 9 1 tv r.texts.length r.vals →
      Calls Tryz.prog F args w fun e w' => Post e ∧ (∃ tv', Row w' kp 37 (r'.cells q tv') ∧ w'.ownsRow 0 9 1 tv' r'.texts.length r'.vals ∧ (∀ k, tv'.ownBlock = some k → tv' = tv ∨ w.heap.size ≤ k) ∧
        RefIs (fun k => S k ∨ tv'.ownBlock = some k) w' q E') ∧ Keeps (fun k => S k ∧ k ≠ kp) w w') :
    Calls Tryz.prog F args w fun e w' => Post e ∧ TwoLogs T w' lp p kp q g D r' E' ∧ Keeps T w w' := by
  obtain ⟨tv, ⟨S, hS, hTS, hd, hr⟩, h1, h2, h3, h4, h5, h6⟩ := h
  refine (hc _ tv (fun k hk => ?_) (.inl (.inr (.inr (.inl rfl)))) (fun k hk => .inl (.inr (.inr (.inr hk)))) hr h2 h3).mono ?_
  · rcases hk with hk | hk
    · exact hS k (hTS k hk)
    · exact hk.1
  rintro e w1 ⟨he, ⟨tv', hr1, ho1, ht1, hq1⟩, hk⟩
  have hsz := hk.size
  have hne : lp ≠ kp := rows_ne h1 h2 (by decide)
  refine ⟨he, ⟨tv', ⟨fun k => k < w1.heap.size ∧ (S k ∨ w.heap.size ≤ k), fun k h => h.1, fun k h => ?_, ?_, ?_⟩, (hk.block lp h1.lt ⟨.inl (.inr (.inl rfl)), hne⟩).trans h1, hr1, ho1, h4, h5, fun k hq hT => ?_⟩, hk.mono (fun k hq => ⟨.inl (.inl hq), fun e => h5 (e ▸ hq)⟩)⟩
  · rcases h with h | h | h | h
    · exact ⟨by have := hS k (hTS k (.inl h)); omega, .inl (hTS k (.inl h))⟩
    · exact ⟨by have := hS k (hTS k (.inr (.inl h))); omega, .inl (hTS k (.inr (.inl h)))⟩
    · exact ⟨by have := hS k (hTS k (.inr (.inr (.inl h)))); omega, .inl (hTS k (.inr (.inr (.inl h))))⟩
    · refine ⟨own_blk_lt ho1 h, ?_⟩
      rcases ht1 k h with e | e
      · exact .inl (hTS k (.inr (.inr (.inr (by rw [← e]; exact h)))))
      · exact .inr e
  · refine DiskIs.keeps (hd.more (fun k hg => hg.2)) hk (fun k hg hn => ⟨.inr ⟨hg, fun hs => hn ⟨by omega, .inl hs⟩⟩, fun e => hn ⟨by omega, .inl (hTS k (.inr (.inr (.inl e))))⟩⟩)
  · refine hq1.more (fun k hg => ?_)
    rcases hg with hg | ⟨hg1, hg2⟩
    · rcases hg with h | h | h | h
      · exact .inl (.inl (.inl (.inl h)))
      · exact .inl (.inl (.inl (.inr (.inl h))))
      · exact .inl (.inl (.inl (.inr (.inr (.inl h)))))
      · exact .inl (.inr h)
    · by_cases hlt : k < w.heap.size
      · exact .inl (.inl (.inr ⟨hlt, fun hs => hg2 ⟨hg1, .inl hs⟩⟩))
      · exact absurd ⟨hg1, .inr (by omega)⟩ hg2
  · rcases ht1 k hq with e | e
    · exact h6 k (by rw [← e]; exact hq) hT
    · have := hS k (hTS k (.inl hT)); omega
end
end Go.Proofs.YtiaaeniopjpfpaaGreatDoor

namespace Go.Proofs.YtiaaeniopjpfpaaGreatDoor
open Go Go.RowKit Go.Maps
set_option linter.unusedVariables false
set_option linter.unusedSimpArgs false

section
variable {T : Nat → Prop} {w : World} {lp p kp q : Nat} {g : LG} {D : DS} {r : RL} {E : DS}
theorem TwoLogs.fuse1 (h : TwoLogs T w lp p kp q g D r E) (x : Nat) (hx : x ≤ 255) :
    Calls Tryz.prog 12 #[.pointer (some ⟨p, 0, none⟩), .int .i64 (x : Nat)] w fun e w' => e = .returned (.tuple #[]) ∧ TwoLogs T w' lp p kp q g { D with fuse := (x : Nat) } r E ∧ Keeps T w w' := by
  refine h.prog (g' := g) (Post := fun e => e = .returned (.tuple #[])) (fun S hS hTS hlp hd hr => ?_)
  obtain ⟨gl, gm, hv, Dm, hd⟩ := hd
  refine (Fuse_any hd (x : Nat) (by omega) (by omega)).mono ?_
  rintro e w' ⟨h1, h2, h3⟩
  exact ⟨h1, (h3.block lp hr.lt hlp).trans hr, ⟨_, _, _, _, h2⟩, h3.mono (fun k h => h.1)⟩
theorem TwoLogs.fuse2 (h : TwoLogs T w lp p kp q g D r E) (x : Nat) (hx : x ≤ 255) :
    (∃ v, w.cell? ⟨q, 3, none⟩ = some (.int .i64 v)) ∧ w.frozen? ⟨q, 3, none⟩ = false ∧
      TwoLogs T (w.setCell ⟨q, 3, none⟩ (.int .i64 (x : Nat))) lp p kp q g D r { E with fuse := (x : Nat) } ∧ Keeps T w (w.setCell ⟨q, 3, none⟩ (.int .i64 (x : Nat))) := by
  obtain ⟨tv, ⟨S, hS, hTS, hd, gl, hv, hr⟩, h1, h2, h3, h4, h5, h6⟩ := h
  have r3 := hr.row.cell 3
  have f3 := hr.row.frozen 3
  simp only [List.getElem?_cons_zero, List.getElem?_cons_succ] at r3
  have hsz : (w.setCell ⟨q, 3, none⟩ (.int .i64 (x : Nat))).heap.size = w.heap.size := by simp
  have hb := (Keeps.refl (fun k => (T k ∨ k = lp ∨ k = kp ∨ tv.ownBlock = some k) ∨ (k < w.heap.size ∧ ¬ S k)) w).setCell (p := ⟨q, 3, none⟩) (.inl hr.fp) (.int .i64 (x : Nat))
  have hr2 : RefAt (fun k => (T k ∨ k = lp ∨ k = kp ∨ tv.ownBlock = some k) ∨ (k < w.heap.size ∧ ¬ S k)) (w.setCell ⟨q, 3, none⟩ (.int .i64 (x : Nat))) q gl hv { E with fuse := (x : Nat) } := hr.rowed rfl rfl (by show _ ≤ ((x : Nat) : Int); omega) (by show ((x : Nat) : Int) ≤ _; omega) (by
    have := hr.row.set 3 (.int .i64 (x : Nat))
    simpa using this) (fun k hg => Below.heap_setCell _ _ _ _ hg.symm)
  refine ⟨⟨_, r3⟩, f3, ⟨tv, ⟨S, fun k h => by rw [hsz]; exact hS k h, hTS, hd.keeps hb (fun k hg hn => Or.inr ⟨hg, hn⟩), gl, hv, by rw [hsz]; exact hr2⟩, (hb.block lp h1.lt (.inl (.inr (.inl rfl)))).trans h1, (hb.block kp h2.lt (.inl (.inr (.inr (.inl rfl))))).trans h2,
    own_kept h3 (fun k hk => hb.block k (own_blk_lt h3 hk) (.inl (.inr (.inr (.inr hk))))), h4, h5, h6⟩, hb.mono (fun k h => .inl (.inl h))⟩
theorem bytesN_fuse (D : DS) (f : Int) (a n : Nat) : bytesN { D with fuse := f } a n = bytesN D a n := by
  induction n with
  | zero => rfl
  | succ n ih => unfold bytesN; rw [ih]; rfl
theorem Both.fuse (h : Both g D r) (f : Int) : Both g { D with fuse := f } r :=
  ⟨h.num, h.half, h.hle, h.count, h.used, h.err, h.room, h.cat, h.tl, fun hl => ⟨(h.live hl).1, (bytesN_fuse D f _ _).trans (h.live hl).2.1, (h.live hl).2.2⟩⟩
theorem reff_fuse (D : DS) (x : Nat) : ({ D with fuse := ((x : Nat) : Int) } : DS).reff = { D.reff with fuse := ((x : Nat) : Int) } := by
  unfold DS.reff
  show ({ D with fuse := max ((x : Nat) : Int) (-1) } : DS) = _
  rw [show max ((x : Nat) : Int) (-1) = ((x : Nat) : Int) by omega]
theorem TwoLogs.grow (h : TwoLogs T w lp p kp q g D r E) {w' : World} (hb : Below w.heap.size w w') {T' : Nat → Prop} (hT : ∀ k, T' k → T k ∨ (w.heap.size ≤ k ∧ k < w'.heap.size)) : TwoLogs T' w' lp p kp q g D r E := by
  obtain ⟨tv, hP, h1, h2, h3, h4, h5, h6⟩ := h
  refine ⟨tv, hP.grow hb (fun k hk => ?_), h1.below hb h1.lt, h2.below hb h2.lt, own_kept h3 (fun k hk => hb.block k (own_blk_lt h3 hk)), fun hk => ?_, fun hk => ?_, fun k hq hk => ?_⟩
  · rcases hk with h | h | h | h
    · rcases hT k h with h | h
      · exact .inl (.inl h)
      · exact .inr h
    · exact .inl (.inr (.inl h))
    · exact .inl (.inr (.inr (.inl h)))
    · exact .inl (.inr (.inr (.inr h)))
  · rcases hT _ hk with h | h
    · exact h4 h
    · have := h1.lt; omega
  · rcases hT _ hk with h | h
    · exact h5 h
    · have := h2.lt; omega
  · rcases hT _ hk with h | h
    · exact h6 k hq h
    · have := own_blk_lt h3 hq; omega
/-- An Add of the program's log. -/
theorem TwoLogs.add1 (h : TwoLogs T w lp p kp q g D r E) (hB : Both g D r) (hG : G w) (hfew : r.texts.length ≤ 1000) (hs : D.steps ≤ 900000) (hh : D.hangs.length ≤ 900000) (t : List UInt8) (ht : t.length ≤ 90000) :
    Calls Tryz.prog 16 #[.pointer (some ⟨lp, 0, none⟩), .string (tx t)] w fun e w' => e = .returned (.int .i64 (g.add D t).2) ∧ TwoLogs T w' lp p kp q (g.add D t).1.1 (g.add D t).1.2 r E ∧ Keeps T w w' := by
  refine h.prog (Post := fun e => e = .returned (.int .i64 (g.add D t).2)) (fun S hS hTS hlp hd hr => ?_)
  exact Add_all hG hS hlp hr hd (by rw [hB.half]; exact hB.hle) (by rw [hB.used]; exact hB.room) (by rw [hB.count]; omega) (by omega) (by omega) t (by omega)
theorem TwoLogs.renew1 (h : TwoLogs T w lp p kp q g D r E) (hB : Both g D r) (hG : G w) (hT : T 0) (hnum : r.num ≤ 1000) (hs : D.steps ≤ 900000) (hh : D.hangs.length ≤ 900000) (t : List UInt8) (ht : t.length ≤ 90000) :
    Calls Tryz.prog 13 #[.pointer (some ⟨lp, 0, none⟩), .string (tx t)] w fun e w' => e = .returned (.int .i64 (g.renewT D t).2) ∧ TwoLogs T w' lp p kp q (g.renewT D t).1.1 (g.renewT D t).1.2 r E ∧ Keeps T w w' := by
  have hne : 0 ≠ lp := by
    obtain ⟨tv, _, _, _, _, h4, _⟩ := h
    intro e
    exact h4 (e ▸ hT)
  refine h.prog (Post := fun e => e = .returned (.int .i64 (g.renewT D t).2)) (fun S hS hTS hlp hd hr => ?_)
  exact Renew_all hG (hTS _ hT) hS hlp hne hr hd (by rw [hB.half]; exact hB.hle) (by rw [hB.num]; omega) hs hh t ht
/-- An Add of the document's. -/
theorem TwoLogs.add2 (h : TwoLogs T w lp p kp q g D r E) (hfew : r.texts.length ≤ 1000) (hby : r.bytes.length ≤ secs E * 128) (hhf : r.half ≤ 1) (hs : E.steps ≤ 900000) (hh : E.hangs.length ≤ 900000) (t : List UInt8) (ht : t.length ≤ 90000) :
    Calls Tryz.prog 17 #[.pointer (some ⟨kp, 0, none⟩), .string (tx t)] w fun e w' => e = .returned (.int .i64 (r.add E t).2) ∧ TwoLogs T w' lp p kp q g D (r.add E t).1.1 (r.add E t).1.2 ∧ Keeps T w w' := by
  refine h.ref (Post := fun e => e = .returned (.int .i64 (r.add E t).2)) (fun S tv hS hkp hlt hd hr htv => ?_)
  exact refAdd_any hr htv hd hS hkp hlt hfew hby hhf (by omega) (by omega) t (by omega)
theorem TwoLogs.renew2 (h : TwoLogs T w lp p kp q g D r E) (hhf : r.half ≤ 1) (hnum : r.num ≤ 1000) (hs : E.steps ≤ 900000) (hh : E.hangs.length ≤ 900000) (t : List UInt8) (ht : t.length ≤ 90000) :
    Calls Tryz.prog 15 #[.pointer (some ⟨kp, 0, none⟩), .string (tx t)] w fun e w' => e = .returned (.int .i64 (r.renew E t).2) ∧ TwoLogs T w' lp p kp q g D (r.renew E t).1.1 (r.renew E t).1.2 ∧ Keeps T w w' := by
  refine h.ref (Post := fun e => e = .returned (.int .i64 (r.renew E t).2)) (fun S tv hS hkp hlt hd hr htv => ?_)
  exact refRenew_any hr htv hd hS hkp hlt hhf (by omega) hs hh t ht
end
end Go.Proofs.YtiaaeniopjpfpaaGreatDoor

namespace Go.Proofs.YtiaaeniopjpfpaaGreatDoor
open Go.RowKit
set_option linter.unusedVariables false

def exA : ByteArray := ⟨#[49, 50, 51, 52]⟩
def exB : ByteArray := ⟨#[53, 54, 55, 56, 57]⟩
theorem ex_sum : ((crcL (cat [exA, exB]) : Nat) : Int) = 3421780262 := by
  have h : crcL (cat [exA, exB]) = 3421780262 := crc_example
  rw [h]; rfl
theorem ex_put : ByteArray.mk (putL 258 (szOf 2)).toArray = ⟨#[1, 2]⟩ := by decide +kernel

set_option maxRecDepth 3000 in
set_option maxHeartbeats 400000 in
theorem awake_any (w : World) :
    Calls Tryz.prog 78 #[] w fun e w' => e = .returned (.bool true) ∧ Below w.heap.size w w' := by
  have hcells : ∀ i, i < 2 → (w.alloc (.cells #[.string ⟨#[49, 50, 51, 52]⟩, .string ⟨#[53, 54, 55, 56, 57]⟩] 9)).cell? ⟨w.heap.size, i, none⟩ = some (.string ([exA, exB].getD i ByteArray.empty)) := by
    intro i hi
    have h := (Row.new w 9 [.string ⟨#[49, 50, 51, 52]⟩, .string ⟨#[53, 54, 55, 56, 57]⟩]).cell i
    rw [h]
    rcases (by omega : i = 0 ∨ i = 1) with rfl | rfl <;> rfl
  have HC := Lib.hid hcells
  clear hcells
  have hb0 : Below w.heap.size w (w.alloc (.cells #[.string ⟨#[49, 50, 51, 52]⟩, .string ⟨#[53, 54, 55, 56, 57]⟩] 9)) := (Below.refl _ _).alloc (Nat.le_refl _) _
  go_enter Tryz.func78, Tryz.ntmps78
  go_wp2_with fail
  refine (CRC_any [exA, exB] w.heap.size 2 2 _ rfl (by omega) (by simp) (fun i hi => by rcases (by omega : i = 0 ∨ i = 1) with rfl | rfl <;> (show (_ : Nat) ≤ _; decide)) HC.out).mono ?_
  rintro e w1 ⟨rfl, hb1⟩
  have hbb := hb0.trans (hb1.mono (by simp))
  rw [ex_sum]
  clear hb0 hb1 HC
  go_wp2_with fail
  refine (Put_any 258 2 _ (by omega)).mono ?_
  rintro e w2 ⟨rfl, hb2⟩
  have hb3 := hbb.trans (hb2.mono hbb.size)
  rw [ex_put]
  clear hbb hb2
  go_wp2
  go_ret
  exact ⟨rfl, hb3⟩
end Go.Proofs.YtiaaeniopjpfpaaGreatDoor

namespace Go.Proofs.YtiaaeniopjpfpaaGreatDoor
open Go.RowKit
set_option linter.unusedVariables false

theorem Awake1_any (w : World) :
    Calls Tryz.prog 39 #[] w fun e w' => e = .returned (.bool true) ∧ Below w.heap.size w w' := by
  go_enter Tryz.func39, Tryz.ntmps39
  go_wp2_with (go_at_call 78; refine (awake_any _).mono ?_; rintro e wa ⟨rfl, hb⟩)
  go_ret
  exact ⟨rfl, hb⟩

theorem abc_prefix : Lib.hasPrefix (shaL [97, 98, 99]) [186, 120, 22, 191] = true := by
  have h := abc_example
  obtain ⟨a, b, c, d, t, e⟩ : ∃ a b c d t, shaL [97, 98, 99] = a :: b :: c :: d :: t := by
    have h2 := shaL_length [97, 98, 99]
    match hq : shaL [97, 98, 99] with
    | [] => rw [hq] at h2; cases h2
    | [_] => rw [hq] at h2; cases h2
    | [_, _] => rw [hq] at h2; cases h2
    | [_, _, _] => rw [hq] at h2; cases h2
    | a :: b :: c :: d :: t => exact ⟨a, b, c, d, t, rfl⟩
  rw [e] at h ⊢
  simp only [List.take_succ_cons, List.take_zero, List.cons.injEq, and_true] at h
  obtain ⟨rfl, rfl, rfl, rfl⟩ := h
  simp [Lib.hasPrefix]

set_option maxRecDepth 3000 in
set_option maxHeartbeats 400000 in
theorem awake5_any (w : World) (hG : G w) :
    Calls Tryz.prog 79 #[] w fun e w' => e = .returned (.bool true) ∧ Below w.heap.size w w' := by
  obtain ⟨L, hL⟩ : ∃ L, shaL [97, 98, 99] = L := ⟨_, rfl⟩
  obtain ⟨L0, hL0⟩ : ∃ L, shaL [] = L := ⟨_, rfl⟩
  have hp : Lib.hasPrefix L [186, 120, 22, 191] = true := by rw [← hL]; exact abc_prefix
  have h32 : (ByteArray.mk L0.toArray).size = 32 := by show L0.toArray.size = 32; rw [List.size_toArray, ← hL0, shaL_length]
  have HT : Hid (∀ W : World, G W → Calls Tryz.prog 110 #[.slice (some ⟨W.heap.size, 0, none⟩) 2 2] (W.alloc (.cells #[.string ⟨#[97]⟩, .string ⟨#[98, 99]⟩] 9)) fun e w' => e = .returned (.string ⟨L.toArray⟩) ∧ Below W.heap.size W w') := Lib.hid fun W hg => by
    rw [← hL]
    have hb0 : Below W.heap.size W (W.alloc (.cells #[.string ⟨#[97]⟩, .string ⟨#[98, 99]⟩] 9)) := (Below.refl _ _).alloc (Nat.le_refl _) _
    refine (Text_any W.heap.size 0 2 [⟨#[97]⟩, ⟨#[98, 99]⟩] _ (hg.below hb0) (fun j x hx => ?_) (by simp) (by decide) (by decide) [97, 98, 99] rfl (by decide)).mono fun e w' h => ⟨h.1, hb0.trans (h.2.mono hb0.size)⟩
    have h := (Row.new W 9 [.string ⟨#[97]⟩, .string ⟨#[98, 99]⟩]).cell j
    rw [Nat.zero_add, h]
    match j, hx with
    | 0, hx => cases hx; rfl
    | 1, hx => cases hx; rfl
    | j + 2, hx => cases hx
  have HT0 : Hid (∀ W : World, G W → Calls Tryz.prog 110 #[.slice none 0 0] W fun e w' => e = .returned (.string ⟨L0.toArray⟩) ∧ Below W.heap.size W w') := Lib.hid fun W hg => by
    rw [← hL0]; exact Text_none none 0 W hg
  have HP : Hid (∀ W : World, Calls Tryz.prog 73 #[.string ⟨L.toArray⟩, .string ⟨#[186, 120, 22, 191]⟩] W fun e w' => e = .returned (.bool true) ∧ w' = W) := Lib.hid fun W => by
    have h := Tryz.strings_HasPrefix ⟨L.toArray⟩ ⟨#[186, 120, 22, 191]⟩ W
    rw [show Lib.hasPrefix (ByteArray.mk L.toArray).data.toList (ByteArray.mk #[186, 120, 22, 191]).data.toList = true from hp] at h
    exact h
  have HG := Lib.hid hG
  clear hL hL0 hp hG
  go_enter Tryz.func79, Tryz.ntmps79
  go_wp2_with fail
  refine (Awake1_any _).mono ?_
  rintro e w1 ⟨rfl, hb1⟩
  have hg1 := HG.out.below hb1
  go_wp2_with fail
  refine (HT.out _ hg1).mono ?_
  rintro e w2 ⟨rfl, hb2⟩
  have hb2' := hb1.trans (hb2.mono hb1.size)
  have hg2 := HG.out.below hb2'
  clear hb1 hb2 hg1
  go_wp2_with fail
  refine (HP.out _).mono ?_
  rintro e w3 ⟨rfl, rfl⟩
  go_wp2_with fail
  refine (HT0.out _ hg2).mono ?_
  rintro e w4 ⟨rfl, hb4⟩
  have hb4' := hb2'.trans (hb4.mono hb2'.size)
  clear hb2' hb4 hg2
  go_wp2_with fail
  go_ret
  exact ⟨rfl, hb4'⟩
theorem Awake5_any (w : World) (hG : G w) :
    Calls Tryz.prog 40 #[] w fun e w' => e = .returned (.bool true) ∧ Below w.heap.size w w' := by
  go_enter Tryz.func40, Tryz.ntmps40
  go_wp2_with (go_at_call 79; refine (awake5_any _ hG).mono ?_; rintro e wa ⟨rfl, hb⟩)
  go_ret
  exact ⟨rfl, hb⟩
end Go.Proofs.YtiaaeniopjpfpaaGreatDoor

namespace Go.Proofs.YtiaaeniopjpfpaaGreatDoor
open Go Go.RowKit Go.Maps
set_option linter.unusedVariables false
set_option linter.unusedSimpArgs false

theorem Awake11_any (w : World) :
    Calls Tryz.prog 41 #[] w fun e w' => e = .returned (.bool true) ∧ Below w.heap.size w w' := by
  go_enter Tryz.func41, Tryz.ntmps41
  go_wp2_with fail
  refine awake11_any.mono ?_
  rintro e w' ⟨rfl, hB⟩
  go_wp2_with fail
  go_ret
  exact ⟨rfl, hB⟩

set_option maxRecDepth 20000 in
set_option maxHeartbeats 2000000 in
theorem awake12_any (w : World) (hG : G w) :
    Calls Tryz.prog 8 #[] w fun e w' => e = .returned (.bool true) ∧ Below w.heap.size w w' := by
  have HN : Hid (∀ W, Calls Tryz.prog 28 #[.int .i64 0] W fun e w' => e = .returned (.int .i64 28) ∧ W = w') := Lib.hid fun W => Need_any 0 (by omega) W
  have HG := Lib.hid hG
  clear hG
  go_enter Tryz.func8, Tryz.ntmps8
  go_wp2_with fail
  refine (HN.out _).mono ?_
  rintro e w1 ⟨rfl, rfl⟩
  go_wp2_with fail
  refine (Awake1_any _).mono ?_
  rintro e w1 ⟨rfl, hb1⟩
  have HB1 := Lib.hid hb1
  clear hb1
  go_wp2_with fail
  refine (Awake5_any _ (HG.out.below HB1.out)).mono ?_
  rintro e w2 ⟨rfl, hb2⟩
  have HB2 := Lib.hid (HB1.out.trans (hb2.mono HB1.out.size))
  clear hb2
  go_wp2_with fail
  refine (Awake11_any _).mono ?_
  rintro e w3 ⟨rfl, hb3⟩
  have HB3 := Lib.hid (HB2.out.trans (hb3.mono HB2.out.size))
  clear hb3
  go_wp2_with fail
  refine (New_any 20 (by omega) (by omega) _).mono ?_
  rintro e w4 ⟨rfl, hD, hb4⟩
  have hd4 : DiskIs (fun k => k < w3.heap.size) w4 (w3.heap.size + 2) (newDS 20) := ⟨_, _, _, _, hD _ (fun k h => h)⟩
  obtain ⟨p, hp⟩ : ∃ p, w3.heap.size + 2 = p := ⟨_, rfl⟩
  rw [hp] at hd4 ⊢
  have hs3 := HB3.out.size
  have H4 : Hid (DiskIs (fun k => k < w.heap.size) w4 p (newDS 20) ∧ Below w.heap.size w w4) := Lib.hid ⟨hd4.less (fun k h => by omega), HB3.out.trans (hb4.mono hs3)⟩
  clear hD hb4 hd4 hp hs3
  go_wp2_with fail
  have hO := Open_any (HG.out.below H4.out.2) H4.out.1 rfl trim_new
  rw [texts_new, openG_new] at hO
  have hs4 := H4.out.2.size
  refine hO.mono ?_
  rintro e w5 ⟨⟨lp, v, rfl, hlp, hr5, hown⟩, hb5⟩
  obtain ⟨ao, cap, rfl⟩ : ∃ ao cap, v = .slice ao 0 cap := by
    rcases hown.2 with ⟨rfl, h0⟩ | ⟨g, cap, cur, rfl, _⟩
    · exact ⟨none, 0, rfl⟩
    · exact ⟨_, cap, rfl⟩
  have hB5 : Below w.heap.size w w5 := H4.out.2.trans (hb5.mono hs4)
  have hd5 : DiskIs (fun k => k < w.heap.size ∨ k = lp) w5 p (newDS 20) :=
    ((H4.out.1.more (L' := fun k => k < w.heap.size ∨ w4.heap.size ≤ k) (fun g hg => hg)).below hb5).less (fun k h => by rcases h with h | rfl; exact .inl h; exact .inr hlp)
  have hA := Add_any (L := fun k => k < w.heap.size ∨ k = lp) (HG.out.below hB5) (fun k h => by have := hr5.lt; have := hB5.size; rcases h with h | rfl <;> omega) (.inr rfl) hr5 hd5 (by decide) (by decide) (by decide) (by decide) (by decide) hiL rfl (by decide) (by decide)
  rw [awk_add] at hA
  have HA := Lib.hid (show Calls Tryz.prog 16 #[.pointer (some ⟨lp, 0, none⟩), .string ⟨#[104, 105]⟩] w5 _ from hA)
  have H5 := Lib.hid (And.intro hB5 (And.intro hlp hs4))
  clear hO hown hr5 hd5 hA hB5 hb5 hs4 hlp
  go_wp2_with fail
  refine HA.out.mono ?_
  rintro e w6 ⟨rfl, hr6, hd6, hk6⟩
  have H6 : Hid (DiskIs (fun k => k < w.heap.size ∨ k = lp) w6 p awkD2 ∧ Below w.heap.size w w6) := Lib.hid ⟨hd6, H5.out.1.trans (hk6.below H5.out.1.size (fun k h => ⟨.inl h, by have := H5.out.2; omega⟩))⟩
  clear hr6 hd6 hk6 HA
  go_wp2_with fail
  have hO := Open_any (HG.out.below H6.out.2) H6.out.1 rfl trim_awk
  rw [texts_awk, openG_awk] at hO
  refine hO.mono ?_
  rintro e w7 ⟨⟨lp2, v, rfl, hlp2, hr7, hown⟩, hb7⟩
  obtain ⟨g', cap', rfl, hc7⟩ : ∃ g cap, v = .slice (some ⟨g, 0, none⟩) 1 cap ∧ w7.cell? ⟨g, 0, none⟩ = some (.string ⟨#[104, 105]⟩) := by
    rcases hown.2 with ⟨_, h0⟩ | ⟨g, cap, cur, rfl, _, hg, _, _, _, ht⟩
    · cases h0
    · refine ⟨g, cap, rfl, ?_⟩
      have h := congrArg (·[0]?) ht
      simp only [List.map_cons, List.map_nil, List.length_cons, List.length_nil] at h
      simp [World.cell?, hg]
      simpa [List.getElem?_take, tx, hiL] using h
  have H7 := Lib.hid (H6.out.2.trans (hb7.mono H6.out.2.size))
  clear hO hown hr7 hb7 hlp2
  go_wp2_with fail
  go_ret
  exact ⟨rfl, H7.out⟩
end Go.Proofs.YtiaaeniopjpfpaaGreatDoor

namespace Go.Proofs.YtiaaeniopjpfpaaGreatDoor
open Go.RowKit Go.Maps
set_option linter.unusedVariables false
set_option linter.unusedSimpArgs false

section
variable {T : Nat → Prop} {w w' : World} {p q : Nat} {D E D' E' : DS}
def acV (a : AC) : Value := .agg #[.int .i64 a.what, .int .i64 a.place, .int .u8 a.byte.toNat]
/-- What is known behind an act. -/
def DoPost (T : Nat → Prop) (w : World) (p q : Nat) (D : DS) (e : Ending) (w' : World) : Prop :=
  e = .returned (.bool true) ∧ ∃ D' : DS, Pair T w' p q D' D'.reff ∧ D'.steps ≤ D.steps + 1 ∧ D'.hangs.length ≤ D.hangs.length + 1 ∧ Keeps T w w'

theorem Pair.boxed (h : Pair T w p q D E) (o : Obj) : Pair (fun k => T k ∨ k = w.heap.size) (w.alloc o) p q D E := h.grow ((Below.refl _ _).alloc (Nat.le_refl _) o) (fun k hk => by
  rcases hk with h | h
  · exact .inl h
  · exact .inr ⟨by omega, by simp; omega⟩)
theorem keeps_new (T : Nat → Prop) (w : World) (o : Obj) : Keeps T w (w.alloc o) := Keeps.of_below ((Below.refl w.heap.size w).alloc (Nat.le_refl _) o) (fun k hk _ => hk)

end
end Go.Proofs.YtiaaeniopjpfpaaGreatDoor

namespace Go.Proofs.YtiaaeniopjpfpaaGreatDoor
open Go.RowKit Go.Maps Go.Shelf
set_option linter.unusedVariables false
set_option linter.unusedSimpArgs false
attribute [local go_sem] Oper.semAt_some

section
variable {P : Program} {ops : Array Oper} {C : World → Prop}
theorem wpQuiet_call {Q : Act → Prop} {a : Act} {o : Oper} {rest : List Oper} (v : Value) (fn : FuncId) (vals : Array Value) (hw : Region.wanted o (yielded ops a.tmps) = true) (hx : ∀ w, (execOp a.eval o).run P w = .ok (.enter fn vals) w)
    (hc : ∀ w, C w → Calls P fn vals w (fun e w'' => e = .returned v ∧ C w'')) (h : wpQuiet P ops C Q rest (a.put o.dst v)) : wpQuiet P ops C Q (o :: rest) a := by
  unfold wpQuiet
  rw [if_pos hw]
  refine ⟨v, fun w hC => ?_, h⟩
  unfold Oper.quietAt
  rw [hx w]
  exact ⟨rfl, hc w hC⟩
theorem wpQuiet_skip' {Q : Act → Prop} {a : Act} {o : Oper} {rest : List Oper} (hw : Region.wanted o (yielded ops a.tmps) = false) (h : wpQuiet P ops C Q rest (a.put o.dst undef)) : wpQuiet P ops C Q (o :: rest) a := by
  unfold wpQuiet
  rw [if_neg (by rw [hw]; exact Bool.false_ne_true)]
  exact h
end
theorem range_next {n : Nat} {pre : List (Sn n)} {x : Sn n} (h : (pre ++ [x]).map Subtype.val <+: List.range n) : x.1 = pre.length := by
  rw [List.map_append] at h
  have hl := h.length_le
  obtain ⟨t, ht⟩ := h
  have h1 : ((pre.map Subtype.val ++ [x.1]) ++ t)[pre.length]? = (List.range n)[pre.length]? := by
    have : List.map Subtype.val [x] = [x.1] := rfl
    rw [← this, ht]
  rw [List.append_assoc, List.getElem?_append_right (by simp)] at h1
  simp at h1
  simp at hl
  rw [List.getElem?_range (by omega)] at h1
  simpa using h1
theorem range_next' {n : Nat} {pre : List (Sn n)} {x : Sn n} (h : pre.map Subtype.val <+: List.range n) (hx : x.1 = pre.length) : (pre ++ [x]).map Subtype.val <+: List.range n := by
  obtain ⟨t, ht⟩ := h
  have hp : pre.map Subtype.val = List.range pre.length := by
    have h2 := congrArg (List.take pre.length) ht
    rw [List.take_append_of_le_length (by simp), List.take_of_length_le (by simp)] at h2
    rw [h2, List.take_range]
    congr 1
    have := congrArg List.length ht
    simp at this
    omega
  rw [List.map_append, hp]
  have hx2 := x.2
  have e : List.range pre.length ++ List.map Subtype.val [x] = List.range (pre.length + 1) := by rw [List.range_succ]; simp [hx]
  rw [e]
  exact range_pre (by omega)

/-- What a round of the loop reads. -/
structure SameB (W : World) (p q bd bq bn g gr j : Nat) (RC C : List Value) : Prop where
  n : Row W bn 3 [.int .i64 (j : Nat)]
  bq : Row W bq 28 [.pointer (some ⟨q, 0, none⟩)]
  bd : Row W bd 24 [.pointer (some ⟨p, 0, none⟩)]
  rq : Row W q 45 RC
  rg : ∀ W', SB W W' → W'.rangeAt g 0 C
  rl : ∀ W', SB W W' → W'.rangeAt gr (j * 128) C
  sz : (Tryz.prog.info? 90).map (·.size) = some C.length
  dif : ∀ W, (binOp .neq 90 (.agg C.toArray) (.agg C.toArray)).run Tryz.prog W = .ok (.bool false) W
  last : ∀ W', SB W W' → Calls Tryz.prog 55 #[.pointer (some ⟨p, 0, none⟩), .int .i64 (j : Nat)] W' (fun e w' => e = .returned (.agg C.toArray) ∧ SB W w')
theorem own_pure_s {β : Type} {B : Nat} {φ : β → Prop} : OwnFrom B (fun (s : β) (_ : World) => φ s) := fun s X Y row hs _ _ => hs
theorem fn_not_nil (f : Nat) (b : Array Value) (W : World) : (binOp .eql 95 (.func (.func f) #[] b) .nilFunc).run Tryz.prog W = .ok (.bool false) W := by
  kernel_rfl
section
variable {T : Nat → Prop} {w w' : World} {p q : Nat} {D E D' E' : DS}
set_option maxRecDepth 100000 in
set_option maxHeartbeats 4000000 in
theorem Same_any (hP : Pair T w p q D D.reff) (hs : D.steps < 1000000) (hh : D.hangs.length < 1000000) :
    Calls Tryz.prog 22 #[.pointer (some ⟨p, 0, none⟩), .pointer (some ⟨q, 0, none⟩)] w fun e w' => e = .returned (.bool true) ∧ Below w.heap.size w w' := by
  obtain ⟨ws, hws⟩ : ∃ ws, w.heap.size = ws := ⟨_, rfl⟩
  have HWS := Lib.hid hws
  have HP := Lib.hid hP
  have HH := Lib.hid (And.intro hs hh)
  clear hP hs hh
  refine (callsIn_wide (n := 6)).1 ?_
  refine callsIn_of_wp_marks Tryz.func22 rfl trivial ?_ rfl
  simp only [Tryz.ntmps22, List.size_toArray, List.length_cons, List.length_nil, Nat.reduceAdd, Nat.reduceSub, Array.replicate_succ, Array.replicate_zero, List.push_toArray, List.append_toArray, List.nil_append, List.cons_append]
  rw [wpIn_wide]
  clear hws
  go_wp2_with fail
  refine ((callsIn_wide (n := 0)).1 (All_in 0 (some ⟨p, 0, none⟩) _)).mono ?_
  rintro e w5 ⟨rfl, rfl⟩
  have hnf := fun (b : Array Value) (W : World) => fn_not_nil 94 b W
  go_wp2_with fail
  clear hnf
  obtain ⟨bd, hbd⟩ : ∃ b, w.heap.size = b := ⟨_, rfl⟩
  obtain ⟨bq, hbq⟩ : ∃ b, bd + 1 = b := ⟨_, rfl⟩
  obtain ⟨br, hbr⟩ : ∃ b, bq + 1 = b := ⟨_, rfl⟩
  obtain ⟨bc, hbc⟩ : ∃ b, br + 1 = b := ⟨_, rfl⟩
  obtain ⟨bn, hbn⟩ : ∃ b, bc + 1 = b := ⟨_, rfl⟩
  have c1 := Row.new w 24 [.pointer (some ⟨p, 0, none⟩)]
  have c2 := Row.new (w.alloc (.cells #[.pointer (some ⟨p, 0, none⟩)] 24)) 28 [.pointer (some ⟨q, 0, none⟩)]
  have c3 := Row.new ((w.alloc (.cells #[.pointer (some ⟨p, 0, none⟩)] 24)).alloc (.cells #[.pointer (some ⟨q, 0, none⟩)] 28)) 4 [.bool false]
  have c4 := Row.new (((w.alloc (.cells #[.pointer (some ⟨p, 0, none⟩)] 24)).alloc (.cells #[.pointer (some ⟨q, 0, none⟩)] 28)).alloc (.cells #[.bool false] 4)) 24 [.pointer (some ⟨p, 0, none⟩)]
  have c5 := Row.new ((((w.alloc (.cells #[.pointer (some ⟨p, 0, none⟩)] 24)).alloc (.cells #[.pointer (some ⟨q, 0, none⟩)] 28)).alloc (.cells #[.bool false] 4)).alloc (.cells #[.pointer (some ⟨p, 0, none⟩)] 24)) 3 [.int .i64 0]
  have d1 := (((c1.alloc (.cells #[.pointer (some ⟨q, 0, none⟩)] 28)).alloc (.cells #[.bool false] 4)).alloc (.cells #[.pointer (some ⟨p, 0, none⟩)] 24)).alloc (.cells #[.int .i64 0] 3)
  have d2 := ((c2.alloc (.cells #[.bool false] 4)).alloc (.cells #[.pointer (some ⟨p, 0, none⟩)] 24)).alloc (.cells #[.int .i64 0] 3)
  have d3 := (c3.alloc (.cells #[.pointer (some ⟨p, 0, none⟩)] 24)).alloc (.cells #[.int .i64 0] 3)
  have d4 := c4.alloc (.cells #[.int .i64 0] 3)
  have hB : SB w (((((w.alloc (.cells #[.pointer (some ⟨p, 0, none⟩)] 24)).alloc (.cells #[.pointer (some ⟨q, 0, none⟩)] 28)).alloc (.cells #[.bool false] 4)).alloc (.cells #[.pointer (some ⟨p, 0, none⟩)] 24)).alloc (.cells #[.int .i64 0] 3)) := SB.al (SB.al (SB.al (SB.al (SB.al (SB.here w) _) _) _) _) _
  have hsz : (((((w.alloc (.cells #[.pointer (some ⟨p, 0, none⟩)] 24)).alloc (.cells #[.pointer (some ⟨q, 0, none⟩)] 28)).alloc (.cells #[.bool false] 4)).alloc (.cells #[.pointer (some ⟨p, 0, none⟩)] 24)).alloc (.cells #[.int .i64 0] 3)).heap.size = w.heap.size + 5 := by simp
  simp only [World.size_alloc] at d2 d3 d4 c5
  simp only [hbd, hbq, hbr, hbc, hbn] at d1 d2 d3 d4 c5 hsz ⊢
  generalize ((((w.alloc (.cells #[.pointer (some ⟨p, 0, none⟩)] 24)).alloc (.cells #[.pointer (some ⟨q, 0, none⟩)] 28)).alloc (.cells #[.bool false] 4)).alloc (.cells #[.pointer (some ⟨p, 0, none⟩)] 24)).alloc (.cells #[.int .i64 0] 3) = wm at d1 d2 d3 d4 c5 hB hsz ⊢
  have Pm : Pair (fun k => k = bn) wm p q D D.reff := HP.out.grow hB (fun k hk => .inr ⟨by omega, by omega⟩)
  obtain ⟨S, _, hTS, ⟨gl, gm, hv, Dm, hdm⟩, gr, hvr, hrm⟩ := Pm
  obtain ⟨ha, hc, rfl⟩ := own_slice hrm.han
  obtain ⟨nh, hnh⟩ : ∃ nh, D.hangs.length = nh := ⟨_, rfl⟩
  have hdI : DiskIs (fun k => k = bn) wm p D := DiskIs.less ⟨gl, gm, hv, Dm, hdm⟩ hTS
  have hrA : RefAt (fun k => k = bn) wm q gr (.slice ha D.reff.hangs.length hc) D.reff := hrm.kept (fun _ _ => rfl) (fun g hg hl => hrm.out g hg (.inl hl))
  obtain ⟨row, las⟩ := And.intro hdm.row hdm.las
  have h8 := hdm.good.rows
  have hm := hdm.good.most
  have hm16 := hdm.good.least
  have hpl := hdm.row.lt
  have hgl := hdm.las.lt
  have hpn : p ≠ bn := fun e => hdm.fp (hTS _ e)
  have hgn : gl ≠ bn := fun e => hdm.fl (hTS _ e)
  obtain ⟨LS, hLS⟩ : ∃ LS, D.lasts = LS := ⟨_, rfl⟩
  rw [hLS] at row las h8 hm hm16
  obtain ⟨nl, hnl⟩ : ∃ nl, LS.length = nl := ⟨_, rfl⟩
  obtain ⟨RC, HRC⟩ : ∃ RC, Hid (RC = [Value.slice (some ⟨gr, 0, none⟩) nl nl, .slice ha nh hc, .int .i64 (D.steps : Nat), .int .i64 (max D.fuse (-1)), .bool D.down]) := ⟨_, Lib.hid rfl⟩
  have hrq : Row wm q 45 RC := by
    have h := hrA.row
    rw [HRC.out, ← hnl, ← hLS, ← hnh]
    exact h
  have HD := Lib.hid (And.intro hdI (And.intro hrA (And.intro hrq (And.intro hLS hnl))))
  have HNH := Lib.hid hnh
  have HL := Lib.hid (And.intro h8 (And.intro hm hm16))
  have HC := Lib.hid (And.intro d1 (And.intro d2 (And.intro d3 (And.intro hB c5))))
  have HN := Lib.hid (And.intro hpl (And.intro hgl (And.intro hsz (And.intro hpn (And.intro hgn (And.intro hbd (And.intro hbq (And.intro hbr (And.intro hbc hbn)))))))))
  have hbnlt : bn < wm.heap.size := by omega
  have hbclt : bc < wm.heap.size := by omega
  have hInit : Boxed wm bn 3 (.int .i64 (([] : List (Sn LS.length)).length : Nat)) := c5
  have hrowbc : wm.heap[bc]? = some (.cells #[.pointer (some ⟨p, 0, none⟩)] 24 (0, 0)) := d4
  have HI0 := Lib.hid (And.intro hInit hrowbc)
  clear c1 c2 c3 c4 c5 d1 d2 d3 d4 hB hdm hrm hdI hrA hrq hTS hLS hnh hInit hrowbc hbd hbq hbr hbc hbn
  rw [← wpIn_wide (n := 6)]
  refine' wpIn_rangeFunc_ownH rfl (by omega) (gf := 94) (lb := #[.pointer (some ⟨bc, 0, none⟩)]) rfl trivial (enters_of Tryz.func94 (by kernel_rfl) rfl)
    (All_stops 5 (by omega) bc p gl LS _ h8 hm wm HI0.out.2 row las) keepsA_t (keepsA_b (by omega) (by omega) (by omega)) (Below.refl _ _) (fun _ => rfl)
    (fun pre W => pre.map Subtype.val <+: List.range LS.length ∧ Boxed W bn 3 (.int .i64 (pre.length : Nat)) ∧ Keeps (fun k => k ≠ bn) wm W) (fun _ pre _ => ¬ pre.map Subtype.val <+: List.range LS.length)
    (OwnFrom.and own_pure_s (OwnFrom.and (Own.from (own_box bn 3 (fun pre : List (Sn LS.length) => .int .i64 (pre.length : Nat))) _) (ownFrom_keeps (Nat.le_refl _)))) (fun _ => own_pure_s) ⟨List.nil_prefix, HI0.out.1, Keeps.refl _ _⟩
    (fun x a' W => ∃ g, (a' = { tmps := #[Value.pointer (some ⟨p, 0, none⟩), Value.pointer (some ⟨q, 0, none⟩), Value.pointer (some ⟨bd, 0, none⟩), Value.pointer (some ⟨bq, 0, none⟩), Value.pointer (some ⟨br, 0, none⟩), Value.func (Fn.func 94) #[] #[Value.pointer (some ⟨bc, 0, none⟩)], Value.pointer (some ⟨bn, 0, none⟩), Value.int IntKind.i64 (x.1 : Nat), Value.pointer (some ⟨g, 0, none⟩), undef, undef, undef, undef, Value.pointer (some ⟨p, 0, none⟩), Value.func (Fn.func 94) #[] #[Value.pointer (some ⟨bc, 0, none⟩)], Value.func (Fn.func 94) #[] #[Value.pointer (some ⟨bc, 0, none⟩)], Value.bool false, Value.func (Fn.func 94) #[] #[Value.pointer (some ⟨bc, 0, none⟩)], Value.int IntKind.i64 (x.1 : Nat), Value.agg ((LS.getD x.1 []).map bv).toArray, undef, undef, undef, undef, undef, undef, undef, undef, undef, undef, undef, undef, undef, undef, undef, undef, undef, undef, undef, undef, undef, undef, undef, undef, undef, undef, undef, undef, undef, undef, undef, undef, undef, undef, undef, undef, undef, undef, undef, undef, undef, undef, undef, undef, undef, undef, undef, undef, undef, undef, undef, undef, undef, undef, undef, undef, undef, undef, undef, undef, undef, undef, undef, undef, undef, undef, undef, undef, undef, undef, undef, undef, undef, undef, undef, undef, undef, undef, undef, undef, undef, undef, undef, undef, undef, undef, undef, undef, undef, undef, undef, undef, undef, undef], defers := [] }) ∧ Row W g 90 ((LS.getD x.1 []).map bv))
    (fun x a' => ax_own _) ?hassign ?hbody ?hdone ?hstop
  case hstop =>
    rintro D c pre W _ hpre h _
    exact absurd hpre h
  case hassign =>
    intro l' pre x W K hI hK
    unfold allArgs
    rw [show blkV (LS.getD x.1 []) = Value.agg ((LS.getD x.1 []).map bv).toArray from rfl]
    have hx8 : (LS.getD x.1 []).length = 128 := getD_len HL.out.1 x.2
    obtain ⟨hsb, hrow⟩ := boxed_blk W (LS.getD x.1 [])
    have hnew := Row.new W 90 zB
    have hone := blkV_one (LS.getD x.1 [])
    have hszA := blk_sizeA _ hx8
    have hzl : zB.toArray.size = ((LS.getD x.1 []).map bv).toArray.size := by rw [List.size_toArray, List.size_toArray, List.length_map, hx8, zB_len]
    have hW2 : wm.heap.size ≤ W.heap.size := hI.2.2.size
    have hI2 : (pre.map Subtype.val <+: List.range LS.length ∧ Boxed _ bn 3 (.int .i64 (pre.length : Nat)) ∧ Keeps (fun k => k ≠ bn) wm _) := ⟨hI.1, (hsb.block bn (by omega)).trans hI.2.1, hI.2.2.trans (Keeps.of_below (L := fun k => k ≠ bn) hsb (fun _ h _ => h))⟩
    obtain ⟨cs, hcs⟩ : ∃ cs, ((LS.getD x.1 []).map bv).toArray = cs := ⟨_, rfl⟩
    have HX := Lib.hid (And.intro hsb (And.intro hrow (And.intro hI2 (And.intro hone (And.intro hszA (And.intro hzl hW2))))))
    have HCS := Lib.hid hcs
    have hz := (zero_of_info zB_info).1
    clear hsb hrow hone hszA hzl hI2 hW2
    rw [hcs] at HX ⊢
    clear hcs
    gi_wp2_with (refine wpIn_store_row 90 (.tmp 8) (.tmp 19) rfl W.heap.size cs rfl rfl 90 zB.toArray hnew HX.out.2.2.2.2.1 HX.out.2.2.2.2.2.1 HX.out.2.2.2.1 ?_)
    refine hK _ _ ((below_others HX.out.1).from _) (keepsA_of (L := fun _ => True) (Keeps.of_below HX.out.1 (fun _ h _ => h)) trivial trivial trivial ?_ ?_ ?_) HX.out.2.2.1 ⟨W.heap.size, ?_, HX.out.2.1⟩
    · have := HX.out.2.2.2.2.2.2; omega
    · have := HX.out.2.2.2.2.2.2; omega
    · have := HX.out.2.2.2.2.2.2; omega
    · rw [HCS.out]
  case hbody =>
    rintro l' pre x a' W hl' hrec ⟨hpre, hn, hk⟩ ⟨g, rfl, hrow⟩ hlt
    by_cases hx : x.1 = pre.length
    · have hpre2 : (pre ++ [x]).map Subtype.val <+: List.range LS.length := range_next' hpre hx
      obtain ⟨j, hj⟩ : ∃ j, pre.length = j := ⟨_, rfl⟩
      have hpl2 : (pre ++ [x]).length = j + 1 := by rw [List.length_append, hj]; rfl
      have hjl : j < LS.length := by rw [← hj, ← hx]; exact x.2
      rw [hj] at hn hx
      rw [hx]
      have hx8 : (LS.getD j []).length = 128 := getD_len HL.out.1 hjl
      have hsz := blk_sizeK _ hx8
      have hdif := fun W => blk_differ (LS.getD j []) hx8 W
      unfold blkV at hdif
      have hkW : ∀ W', SB W W' → Keeps (fun k => k ≠ bn) wm W' := fun W' h => hk.trans (Keeps.of_below (L := fun k => k ≠ bn) h (fun _ h _ => h))
      have hdW : ∀ W', Keeps (fun k => k ≠ bn) wm W' → DiskIs (fun k => k = bn) W' p D := fun W' h => HD.out.1.keeps h (fun g _ h2 => h2)
      have hrW : ∀ W', Keeps (fun k => k ≠ bn) wm W' → RefAt (fun k => k = bn) W' q gr (.slice ha D.reff.hangs.length hc) D.reff := fun W' h => HD.out.2.1.kept (fun g hg => h.block g (HD.out.2.1.lt g hg) (HD.out.2.1.out g hg)) HD.out.2.1.out
      have hrow2 := hrow
      rw [hx] at hrow2
      obtain ⟨C, hC⟩ : ∃ C, (LS.getD j []).map bv = C := ⟨_, rfl⟩
      have hlst : ∀ W', SB W W' → Calls Tryz.prog 55 #[.pointer (some ⟨p, 0, none⟩), .int .i64 (j : Nat)] W' (fun e w' => e = .returned (.agg C.toArray) ∧ SB W w') := fun W' h => by
        obtain ⟨gl', gm', hv', Dm', hd'⟩ := hdW W' (hkW W' h)
        refine (Lasts_any hd' j (by rw [HD.out.2.2.2.1]; exact hjl)).mono ?_
        rintro e w' ⟨rfl, hb⟩
        refine ⟨?_, h.next hb⟩
        rw [HD.out.2.2.2.1]
        unfold blkV
        rw [hC]
      rw [hC] at hrow2 hsz hdif
      rw [hC]
      have hne := HN.out
      have hkb : ∀ (b : Nat) (T : TypeId) (l : List Value), b < wm.heap.size → b ≠ bn → Row wm b T l → Row W b T l := fun b T l h1 h2 h3 => (hk.block b h1 h2).trans h3
      have hX : SameB W p q bd bq bn g gr j RC C := ⟨hn, hkb bq _ _ (by omega) (by omega) HC.out.2.1, hkb bd _ _ (by omega) (by omega) HC.out.1, hkb q _ _ HD.out.2.2.1.lt (fun e => HD.out.2.1.fp e) HD.out.2.2.1,
        fun W' h => by
          have h := row_range (h.row hrow2) 0 C.length (by omega)
          rwa [List.drop_zero, List.take_of_length_le (Nat.le_refl _)] at h,
        fun W' h => by
          have h2 := (hrW W' (hkW W' h)).lastRange j (show j < D.lasts.length by rw [HD.out.2.2.2.1]; exact hjl)
          have e : D.reff.lasts = LS := HD.out.2.2.2.1
          rw [e, hC] at h2
          exact h2, hsz, hdif, hlst⟩
      have hjI : (j : Int) < (nl : Int) := by have := HD.out.2.2.2.2; omega
      have hj0 : ¬ (j : Int) < 0 := by omega
      have hjg : ¬ (nl : Int) ≤ (j : Int) := by omega
      have HX := Lib.hid hX
      -- what both read there
      obtain ⟨gl0, gm0, hv0, Dm0, hd0⟩ := HD.out.1
      have hrl := read_len hd0.good (j : Int)
      obtain ⟨RB, hRB⟩ : ∃ RB, (D.read (j : Int)).map bv = RB := ⟨_, rfl⟩
      have hRBl : RB.length = 128 := by rw [← hRB, List.length_map, hrl]
      have hRsz := blk_sizeK _ hrl
      have hRone := blkV_one (D.read (j : Int))
      have hRV : blkV (D.read (j : Int)) = .agg RB.toArray := by unfold blkV; rw [hRB]
      have hEQ := fun W => blk_differ (D.read (j : Int)) hrl W
      rw [hRB] at hRsz hRone
      rw [hRV] at hEQ
      obtain ⟨F, hF⟩ : ∃ F, D.fault (j : Int) = F := ⟨_, rfl⟩
      obtain ⟨Z, hZ⟩ : ∃ Z, zB = Z := ⟨_, rfl⟩
      have hZl : Z.length = 128 := by rw [← hZ]; exact zB_len
      have hz := (zero_of_info zB_info).1
      rw [hZ] at hz
      have HZ := Lib.hid (And.intro hZ (And.intro hZl (And.intro hRBl (And.intro hRsz hRone))))
      have HNEW : Hid (∀ W : World, Row (W.alloc (.cells Z.toArray 90)) W.heap.size 90 Z ∧ SB W ((W.alloc (.cells Z.toArray 90)).setRow W.heap.size RB.toArray) ∧ Row ((W.alloc (.cells Z.toArray 90)).setRow W.heap.size RB.toArray) W.heap.size 90 RB) := Lib.hid fun W =>
        ⟨Row.new W 90 Z, below_setRow (B := W.heap.size) ((Below.refl W.heap.size W).alloc (Nat.le_refl _) _) (Nat.le_refl _) _, (Row.new W 90 Z).put _⟩
      have HLD : Hid (∀ (W : World) (g : Nat), Row W g 90 RB → (Instr.loadAt 90 (.pointer (some ⟨g, 0, none⟩))).run Tryz.prog W = .ok (.agg RB.toArray) W) := Lib.hid fun W g hr => by
        have h := run_loadAt_mid (P := Tryz.prog) W g 0 90 RB _ (fun j v hj => by rw [Nat.zero_add, hr.cell]; exact hj) Tryz.underlying90 rfl HZ.out.2.2.2.1
        exact h
      have HRD : Hid (∀ W', SB W W' → CallsIn (Fence.wide.inRound l') 3 Tryz.prog 56 #[.pointer (some ⟨p, 0, none⟩), .int .i64 (j : Nat)] W' fun e w' => e = .returned (.tuple #[.agg RB.toArray, .int .i64 F]) ∧ SB W w' ∧ SB W' w') := Lib.hid fun W' h => by
        obtain ⟨gl', gm', hv', Dm', hd'⟩ := hdW W' (hkW W' h)
        have h2 := (Read_any hd' (j : Int)).mono (fun e w' h3 => And.intro h3.1 (And.intro (h.next h3.2) h3.2))
        rw [hRV, hF] at h2
        exact CallsIn.inRound l' (callsIn_wide.2 h2)
      have HRR : Hid (∀ W', SB W W' → CallsIn (Fence.wide.inRound l') 3 Tryz.prog 57 #[.pointer (some ⟨q, 0, none⟩), .int .i64 (j : Nat)] W' fun e w' => e = .returned (.tuple #[.agg RB.toArray, .int .i64 F]) ∧ SB W w' ∧ SB W' w') := Lib.hid fun W' h => by
        have h2 := (RRead_any (hrW W' (hkW W' h)) (j : Int) (show D.hangs.length < 1000000000 by have := HH.out.2; omega)).mono (fun e w' h3 => And.intro h3.1 (And.intro (h.next h3.2) h3.2))
        rw [reff_read, reff_fault, hRV, hF] at h2
        exact CallsIn.inRound l' (callsIn_wide.2 h2)
      have HJN := Lib.hid (show j < nl by omega)
      have hnl4 : (nl : Int) ≤ 4096 := by have := HL.out.2.1; have := HD.out.2.2.2.2; omega
      have hWs := Lib.hid (show wm.heap.size ≤ W.heap.size from hk.size)
      have HK := Lib.hid (And.intro hkW (And.intro hpre2 (And.intro hpl2 hjI)))
      clear hk hn hpre hpre2 hpl2 hlt hx hjl hx8 hsz hdif hkW hdW hrW hrow2 hC hlst hkb hX hd0 hrl hRB hRBl hRsz hRone hRV hF hZ hZl hne hrow hj
      gi_wp2
      refine round_quiet_lit (SB W) (by kernel_rfl) (by kernel_rfl) (by kernel_rfl) (below_drewK (Below.refl _ _) 1) ?_
      refine wpQuiet_yields (.int .i64 (j : Nat)) (Or.inl ⟨by rfl, fun W' hS => ?yq1⟩) ?_
      case yq1 =>
        go_simp
      try simp only [Act.put, List.setIfInBounds_toArray, List.set_cons_zero, List.set_cons_succ]
      refine wpQuiet_yields (.int .i64 (j : Nat)) (Or.inl ⟨by rfl, fun W' hS => ?yq2⟩) ?_
      case yq2 =>
        have q0 := (SB.row (l := [.int .i64 (j : Nat)]) hS HX.out.n).cell 0
        simp only [List.getElem?_cons_zero] at q0
        go_simp
      try simp only [Act.put, List.setIfInBounds_toArray, List.set_cons_zero, List.set_cons_succ]
      refine wpQuiet_yields (.bool false) (Or.inl ⟨by rfl, fun W' hS => ?yq3⟩) ?_
      case yq3 =>
        go_simp
      try simp only [Act.put, List.setIfInBounds_toArray, List.set_cons_zero, List.set_cons_succ]
      refine wpQuiet_yields (.bool false) (Or.inl ⟨by rfl, fun W' hS => ?yq4⟩) ?_
      case yq4 =>
        go_simp
      try simp only [Act.put, List.setIfInBounds_toArray, List.set_cons_zero, List.set_cons_succ]
      refine wpQuiet_yields (.int .i64 (j : Nat)) (Or.inl ⟨by rfl, fun W' hS => ?yq5⟩) ?_
      case yq5 =>
        go_simp
      try simp only [Act.put, List.setIfInBounds_toArray, List.set_cons_zero, List.set_cons_succ]
      refine wpQuiet_yields (Value.pointer (some ⟨q, 0, none⟩)) (Or.inl ⟨by rfl, fun W' hS => ?yq6⟩) ?_
      case yq6 =>
        have q0 := (SB.row (l := [Value.pointer (some ⟨q, 0, none⟩)]) hS HX.out.bq).cell 0
        simp only [List.getElem?_cons_zero] at q0
        go_simp
      try simp only [Act.put, List.setIfInBounds_toArray, List.set_cons_zero, List.set_cons_succ]
      refine wpQuiet_yields (Value.pointer (some ⟨q, 0, none⟩)) (Or.inl ⟨by rfl, fun W' hS => ?yq7⟩) ?_
      case yq7 =>
        go_simp
      try simp only [Act.put, List.setIfInBounds_toArray, List.set_cons_zero, List.set_cons_succ]
      refine wpQuiet_yields (Value.pointer (some ⟨q, 0, none⟩)) (Or.inl ⟨by rfl, fun W' hS => ?yq8⟩) ?_
      case yq8 =>
        go_simp
      try simp only [Act.put, List.setIfInBounds_toArray, List.set_cons_zero, List.set_cons_succ]
      refine wpQuiet_yields (.slice (some ⟨gr, 0, none⟩) nl nl) (Or.inl ⟨by rfl, fun W' hS => ?yq9⟩) ?_
      case yq9 =>
        have q0 := (SB.row hS HX.out.rq).cell 0
        simp only [HRC.out, List.getElem?_cons_zero] at q0
        go_simp
      try simp only [Act.put, List.setIfInBounds_toArray, List.set_cons_zero, List.set_cons_succ]
      refine wpQuiet_yields (.int .i64 nl) (Or.inl ⟨by rfl, fun W' hS => ?yq10⟩) ?_
      case yq10 =>
        go_simp
      try simp only [Act.put, List.setIfInBounds_toArray, List.set_cons_zero, List.set_cons_succ]
      refine wpQuiet_yields (.bool false) (Or.inl ⟨by rfl, fun W' hS => ?yq11⟩) ?_
      case yq11 =>
        go_simp
        exact HJN.out
      try simp only [Act.put, List.setIfInBounds_toArray, List.set_cons_zero, List.set_cons_succ]
      refine wpQuiet_yields (.bool false) (Or.inl ⟨by rfl, fun W' hS => ?yq12⟩) ?_
      case yq12 =>
        go_simp
      try simp only [Act.put, List.setIfInBounds_toArray, List.set_cons_zero, List.set_cons_succ]
      refine wpQuiet_yields (.bool false) (Or.inl ⟨by rfl, fun W' hS => ?yq13⟩) ?_
      case yq13 =>
        go_simp
      try simp only [Act.put, List.setIfInBounds_toArray, List.set_cons_zero, List.set_cons_succ]
      refine wpQuiet_yields (.agg C.toArray) (yieldsIf_load_mid (by rfl) 90 (.tmp 8) rfl g 0 rfl C _ (fun W h => HX.out.rg W h) Tryz.underlying90 rfl HX.out.sz) ?_
      try simp only [Act.put, List.setIfInBounds_toArray, List.set_cons_zero, List.set_cons_succ]
      refine wpQuiet_yields (Value.pointer (some ⟨q, 0, none⟩)) (Or.inl ⟨by rfl, fun W' hS => ?yq14⟩) ?_
      case yq14 =>
        have q0 := (SB.row (l := [Value.pointer (some ⟨q, 0, none⟩)]) hS HX.out.bq).cell 0
        simp only [List.getElem?_cons_zero] at q0
        go_simp
      try simp only [Act.put, List.setIfInBounds_toArray, List.set_cons_zero, List.set_cons_succ]
      refine wpQuiet_yields (Value.pointer (some ⟨q, 0, none⟩)) (Or.inl ⟨by rfl, fun W' hS => ?yq15⟩) ?_
      case yq15 =>
        go_simp
      try simp only [Act.put, List.setIfInBounds_toArray, List.set_cons_zero, List.set_cons_succ]
      refine wpQuiet_yields (Value.pointer (some ⟨q, 0, none⟩)) (Or.inl ⟨by rfl, fun W' hS => ?yq16⟩) ?_
      case yq16 =>
        go_simp
      try simp only [Act.put, List.setIfInBounds_toArray, List.set_cons_zero, List.set_cons_succ]
      refine wpQuiet_yields (.slice (some ⟨gr, 0, none⟩) nl nl) (Or.inl ⟨by rfl, fun W' hS => ?yq17⟩) ?_
      case yq17 =>
        have q0 := (SB.row hS HX.out.rq).cell 0
        simp only [HRC.out, List.getElem?_cons_zero] at q0
        go_simp
      try simp only [Act.put, List.setIfInBounds_toArray, List.set_cons_zero, List.set_cons_succ]
      refine wpQuiet_yields (.int .i64 (j : Nat)) (Or.inl ⟨by rfl, fun W' hS => ?yq18⟩) ?_
      case yq18 =>
        go_simp
      try simp only [Act.put, List.setIfInBounds_toArray, List.set_cons_zero, List.set_cons_succ]
      refine wpQuiet_yields (.pointer (some ⟨gr, j * 128, none⟩)) (Or.inl ⟨by rfl, fun W' hS => ?yq19⟩) ?_
      case yq19 =>
        go_simp
      try simp only [Act.put, List.setIfInBounds_toArray, List.set_cons_zero, List.set_cons_succ]
      refine wpQuiet_yields (.agg C.toArray) (yieldsIf_load_mid (by rfl) 90 (.tmp 39) rfl gr (j * 128) rfl C _ (fun W h => HX.out.rl W h) Tryz.underlying90 rfl HX.out.sz) ?_
      try simp only [Act.put, List.setIfInBounds_toArray, List.set_cons_zero, List.set_cons_succ]
      refine wpQuiet_yields (.bool false) (yields_neq (by rfl) _ _ _ _ rfl C.toArray rfl rfl (by kernel_rfl) HX.out.dif) ?_
      try simp only [Act.put, List.setIfInBounds_toArray, List.set_cons_zero, List.set_cons_succ]
      refine wpQuiet_yields (.bool false) (Or.inl ⟨by rfl, fun W' hS => ?yq20⟩) ?_
      case yq20 =>
        go_simp
      try simp only [Act.put, List.setIfInBounds_toArray, List.set_cons_zero, List.set_cons_succ]
      refine wpQuiet_yields (.bool false) (Or.inl ⟨by rfl, fun W' hS => ?yq21⟩) ?_
      case yq21 =>
        go_simp
      try simp only [Act.put, List.setIfInBounds_toArray, List.set_cons_zero, List.set_cons_succ]
      refine wpQuiet_yields (Value.pointer (some ⟨p, 0, none⟩)) (Or.inl ⟨by rfl, fun W' hS => ?yq22⟩) ?_
      case yq22 =>
        have q0 := (SB.row (l := [Value.pointer (some ⟨p, 0, none⟩)]) hS HX.out.bd).cell 0
        simp only [List.getElem?_cons_zero] at q0
        go_simp
      try simp only [Act.put, List.setIfInBounds_toArray, List.set_cons_zero, List.set_cons_succ]
      refine wpQuiet_yields (.int .i64 (j : Nat)) (Or.inl ⟨by rfl, fun W' hS => ?yq23⟩) ?_
      case yq23 =>
        go_simp
      try simp only [Act.put, List.setIfInBounds_toArray, List.set_cons_zero, List.set_cons_succ]
      refine wpQuiet_call (.agg C.toArray) 55 #[Value.pointer (some ⟨p, 0, none⟩), .int .i64 (j : Nat)] (by rfl) (fun W' => ?yq24) (fun W' hS => HX.out.last W' hS) ?_
      case yq24 =>
        go_simp
      try simp only [Act.put, List.setIfInBounds_toArray, List.set_cons_zero, List.set_cons_succ]
      refine wpQuiet_yields (.agg C.toArray) (yieldsIf_load_mid (by rfl) 90 (.tmp 8) rfl g 0 rfl C _ (fun W h => HX.out.rg W h) Tryz.underlying90 rfl HX.out.sz) ?_
      try simp only [Act.put, List.setIfInBounds_toArray, List.set_cons_zero, List.set_cons_succ]
      refine wpQuiet_yields (.bool false) (yields_neq (by rfl) _ _ _ _ rfl C.toArray rfl rfl (by kernel_rfl) HX.out.dif) ?_
      try simp only [Act.put, List.setIfInBounds_toArray, List.set_cons_zero, List.set_cons_succ]
      refine wpQuiet_yields (.bool false) (Or.inl ⟨by rfl, fun W' hS => ?yq25⟩) ?_
      case yq25 =>
        go_simp
      try simp only [Act.put, List.setIfInBounds_toArray, List.set_cons_zero, List.set_cons_succ]
      refine wpQuiet_nil ?_
      intro wf hwf

      have HWF := Lib.hid hwf
      have b3 := (SB.row hwf HX.out.bd).cell 0
      simp only [List.getElem?_cons_zero] at b3
      clear hwf
      gi_wp2_with (first
        | (refine ⟨trivial, ?_⟩; gi_at_call 56; refine (HRD.out _ HWF.out).mono ?_; rintro e w2 ⟨rfl, hb2⟩; have HB2 := Lib.hid hb2; clear hb2)
        | (refine ⟨trivial, ?_⟩; gi_at_call 57; refine (HRR.out _ HN3.out.1).mono ?_; rintro e w4 ⟨rfl, hb4⟩; have HB4 := Lib.hid hb4; clear hb4)
        | (refine wpIn_store_row 90 (.tmp 9) (.tmp 54) rfl w2.heap.size RB.toArray rfl rfl 90 Z.toArray (HNEW.out w2).1 (by rw [List.size_toArray]; exact HZ.out.2.2.2.1) (by rw [List.size_toArray, List.size_toArray, HZ.out.2.1, HZ.out.2.2.1]) HZ.out.2.2.2.2 ?_; have hN := (HNEW.out w2).2; generalize (w2.alloc (.cells Z.toArray 90)).setRow w2.heap.size RB.toArray = w3 at hN ⊢; have HN3 := Lib.hid (And.intro (SB.next HB2.out.1 hN.1) hN.2); have b4 := (SB.row HN3.out.1 HX.out.bq).cell 0; simp only [List.getElem?_cons_zero] at b4; clear hN)
        | (refine wpIn_store_row 90 (.tmp 11) (.tmp 60) rfl w4.heap.size RB.toArray rfl rfl 90 Z.toArray (HNEW.out w4).1 (by rw [List.size_toArray]; exact HZ.out.2.2.2.1) (by rw [List.size_toArray, List.size_toArray, HZ.out.2.1, HZ.out.2.2.1]) HZ.out.2.2.2.2 ?_; have hN := (HNEW.out w4).2; generalize (w4.alloc (.cells Z.toArray 90)).setRow w4.heap.size RB.toArray = w5 at hN ⊢; have HN5 := Lib.hid (And.intro (SB.next HB4.out.1 hN.1) (And.intro hN.2 (SB.row (SB.next HB4.out.2 hN.1) HN3.out.2))); have b5 := (SB.row HN5.out.1 HX.out.n).cell 0; have f5 := (SB.row HN5.out.1 HX.out.n).frozen 0; simp only [List.getElem?_cons_zero] at b5; clear hN)
        | (refine wpIn_load_eq (g := w2.heap.size) rfl rfl (HLD.out _ _ HN5.out.2.2) ?_)
        | (refine wpIn_load_eq (g := w4.heap.size) rfl rfl (HLD.out _ _ HN5.out.2.1) ?_)
        | fail)
      have hne := HN.out
      have hk5 := HK.out.1 _ HN5.out.1
      have hsz5 := hk5.size
      have e1 : (((pre ++ [x]).length : Nat) : Int) = (j : Int) + 1 := by rw [HK.out.2.2.1]; omega
      have hbx : Boxed w5 bn 3 (.int .i64 (j : Nat)) := SB.row HN5.out.1 HX.out.n
      have hWW : wm.heap.size ≤ W.heap.size := hWs.out
      have hkA : Keeps (fun k => k ≠ bn) W (w5.setCell ⟨bn, 0, none⟩ (.int .i64 ((j : Int) + 1))) := (Keeps.of_below (L := fun k => k ≠ bn) HN5.out.1 (fun _ h _ => h)).setCell (p := ⟨bn, 0, none⟩) (.inl (fun h => h rfl)) _
      refine ⟨((below_others HN5.out.1).trans (KeepsOthers.setCell _ _ _)).from _, keepsA_of (L := fun k => k ≠ bn) hkA (by omega) (by omega) (by omega) (by omega) (by omega) (by omega), HK.out.2.1, ?_, hk5.setCell (p := ⟨bn, 0, none⟩) (.inl (fun h => h rfl)) _⟩
      rw [e1]
      exact hbx.set _
    · have hnp : ¬ (pre ++ [x]).map Subtype.val <+: List.range LS.length := fun h => hx (range_next h)
      have HNP := Lib.hid hnp
      obtain ⟨j, hj⟩ : ∃ j, pre.length = j := ⟨_, rfl⟩
      obtain ⟨i, hi⟩ : ∃ i, x.1 = i := ⟨_, rfl⟩
      rw [hj] at hn hx
      rw [hi] at hx ⊢
      have hne : ((i : Int) != (j : Int)) = true := by rw [bne_iff_ne]; omega
      have hne3 : ((i : Int) == (j : Int)) = false := by rw [beq_eq_false_iff_ne]; omega
      have hbr : Row W br 4 [.bool false] := (hk.block br (by have := HN.out; omega) (by have := HN.out; show br ≠ bn; omega)).trans HC.out.2.2.1
      have HX := Lib.hid (And.intro (show Row W bn 3 [.int .i64 (j : Nat)] from hn) hbr)
      clear hnp hn hbr hj hi hk hpre hx hrow
      gi_wp2
      refine round_quiet_lit (SB W) (by kernel_rfl) (by kernel_rfl) (by kernel_rfl) (below_drewK (Below.refl _ _) 1) ?_
      refine wpQuiet_yields (.int .i64 (i : Nat)) (Or.inl ⟨by rfl, fun W' hS => ?yq1⟩) ?_
      case yq1 =>
        go_simp
      try simp only [Act.put, List.setIfInBounds_toArray, List.set_cons_zero, List.set_cons_succ]
      refine wpQuiet_yields (.int .i64 (j : Nat)) (Or.inl ⟨by rfl, fun W' hS => ?yq2⟩) ?_
      case yq2 =>
        have q0 := (SB.row (l := [.int .i64 (j : Nat)]) hS HX.out.1).cell 0
        simp only [List.getElem?_cons_zero] at q0
        go_simp
      try simp only [Act.put, List.setIfInBounds_toArray, List.set_cons_zero, List.set_cons_succ]
      refine wpQuiet_yields (.bool true) (Or.inl ⟨by rfl, fun W' hS => ?yq3⟩) ?_
      case yq3 =>
        go_simp
      try simp only [Act.put, List.setIfInBounds_toArray, List.set_cons_zero, List.set_cons_succ]
      refine wpQuiet_yields (.bool true) (Or.inl ⟨by rfl, fun W' hS => ?yq4⟩) ?_
      case yq4 =>
        go_simp
      try simp only [Act.put, List.setIfInBounds_toArray, List.set_cons_zero, List.set_cons_succ]
      go_big_quiet_skip
      go_big_quiet_skip
      go_big_quiet_skip
      go_big_quiet_skip
      go_big_quiet_skip
      go_big_quiet_skip
      go_big_quiet_skip
      refine wpQuiet_yields (.bool true) (Or.inl ⟨by rfl, fun W' hS => ?yq5⟩) ?_
      case yq5 =>
        go_simp
      try simp only [Act.put, List.setIfInBounds_toArray, List.set_cons_zero, List.set_cons_succ]
      refine wpQuiet_yields (.bool true) (Or.inl ⟨by rfl, fun W' hS => ?yq6⟩) ?_
      case yq6 =>
        go_simp
      try simp only [Act.put, List.setIfInBounds_toArray, List.set_cons_zero, List.set_cons_succ]
      go_big_quiet_skip
      go_big_quiet_skip
      go_big_quiet_skip
      go_big_quiet_skip
      go_big_quiet_skip
      go_big_quiet_skip
      go_big_quiet_skip
      go_big_quiet_skip
      go_big_quiet_skip
      refine wpQuiet_yields (.bool true) (Or.inl ⟨by rfl, fun W' hS => ?yq7⟩) ?_
      case yq7 =>
        go_simp
      try simp only [Act.put, List.setIfInBounds_toArray, List.set_cons_zero, List.set_cons_succ]
      refine wpQuiet_yields (.bool true) (Or.inl ⟨by rfl, fun W' hS => ?yq8⟩) ?_
      case yq8 =>
        go_simp
      try simp only [Act.put, List.setIfInBounds_toArray, List.set_cons_zero, List.set_cons_succ]
      go_big_quiet_skip
      go_big_quiet_skip
      go_big_quiet_skip
      go_big_quiet_skip
      go_big_quiet_skip
      refine wpQuiet_yields (.bool true) (Or.inl ⟨by rfl, fun W' hS => ?yq9⟩) ?_
      case yq9 =>
        go_simp
      try simp only [Act.put, List.setIfInBounds_toArray, List.set_cons_zero, List.set_cons_succ]
      refine wpQuiet_nil ?_
      intro wf hwf

      have r0 := (SB.row hwf HX.out.2).cell 0
      have f0 := (SB.row hwf HX.out.2).frozen 0
      simp only [List.getElem?_cons_zero] at r0
      gi_wp2
      exact ⟨((below_others hwf).trans (KeepsOthers.setCell _ _ _)).from _, HNP.out⟩
  case hdone =>
    rintro D' xs W' hD' hS ⟨_, hn, hk⟩ hK'
    have hxl : xs.length = LS.length := by have h := congrArg List.length hS; simpa using h
    rw [hxl, HD.out.2.2.2.2] at hn
    have hne := HN.out
    have hkb : ∀ (b : Nat) (T : TypeId) (l : List Value), b < wm.heap.size → b ≠ bn → Row wm b T l → Row W' b T l := fun b T l h1 h2 h3 => (hk.block b h1 h2).trans h3
    have x1 : Row W' bn 3 [.int .i64 nl] := hn
    have x2 := hkb bd _ _ (by omega) (by omega) HC.out.1
    have x3 := hkb bq _ _ (by omega) (by omega) HC.out.2.1
    have x4 := hkb q _ _ HD.out.2.2.1.lt (fun e => HD.out.2.1.fp e) HD.out.2.2.1
    have x5 := hkb br _ _ (by omega) (by omega) HC.out.2.2.1
    have hdW : DiskIs (fun k => k = bn) W' p D := HD.out.1.keeps hk (fun g _ h2 => h2)
    have hdD : DiskIs (fun k => k = bn) W'.drew p D := hdW.below (below_drewK (Below.refl _ _) 1)
    have hB6 : SB w W' := HC.out.2.2.2.1.trans (hk.below (B := w.heap.size) (HC.out.2.2.2.1.size) (fun k h => by omega))
    have HS0 : Hid (Row W'.drew bn 3 [.int .i64 nl] ∧ Row W'.drew bd 24 [.pointer (some ⟨p, 0, none⟩)] ∧ Row W'.drew bq 28 [.pointer (some ⟨q, 0, none⟩)] ∧ Row W'.drew q 45 RC) := Lib.hid ⟨x1.drew, x2.drew, x3.drew, x4.drew⟩
    have hnr : bn ≠ br ∧ bd ≠ br ∧ bq ≠ br := by omega
    have hqr : q ≠ br := fun e => by
      have h1 := HD.out.2.2.1
      have h2 := HC.out.2.2.1
      unfold Row at h1 h2
      rw [e, h2] at h1
      injection h1 with h1
      injection h1 with _ h3
      revert h3
      decide
    have HS6 : Hid (Row (W'.drew.setCell ⟨br, 0, none⟩ (.bool true)) bn 3 [.int .i64 nl] ∧ Row (W'.drew.setCell ⟨br, 0, none⟩ (.bool true)) bd 24 [.pointer (some ⟨p, 0, none⟩)] ∧ Row (W'.drew.setCell ⟨br, 0, none⟩ (.bool true)) bq 28 [.pointer (some ⟨q, 0, none⟩)] ∧ Row (W'.drew.setCell ⟨br, 0, none⟩ (.bool true)) q 45 RC) := Lib.hid ⟨x1.drew.far hnr.1 _, x2.drew.far hnr.2.1 _, x3.drew.far hnr.2.2 _, x4.drew.far hqr _⟩
    have HR5 := Lib.hid (And.intro x5 (And.intro hK' (And.intro hB6 hD')))
    have HSE : Hid (Calls Tryz.prog 58 #[.pointer (some ⟨p, 0, none⟩)] W'.drew fun e w' => e = .returned (.int .i64 nl) ∧ W'.drew = w') := Lib.hid (by
      obtain ⟨gl', gm', hv', Dm', hd'⟩ := hdD
      have h := Sectors_any hd'
      rw [HD.out.2.2.2.1, HD.out.2.2.2.2] at h
      exact h)
    have HDO : Hid (Calls Tryz.prog 59 #[.pointer (some ⟨p, 0, none⟩)] W'.drew fun e w' => e = .returned (.bool D.down) ∧ W'.drew = w') := Lib.hid (by
      obtain ⟨gl', gm', hv', Dm', hd'⟩ := hdD
      exact Down_any hd')
    have HST : Hid (Calls Tryz.prog 24 #[.pointer (some ⟨p, 0, none⟩)] W'.drew fun e w' => e = .returned (.int .i64 (D.steps : Nat)) ∧ W'.drew = w') := Lib.hid (by
      obtain ⟨gl', gm', hv', Dm', hd'⟩ := hdD
      exact Steps_any hd')
    have HHA : Hid (Calls Tryz.prog 60 #[.pointer (some ⟨p, 0, none⟩)] W'.drew fun e w' => e = .returned (.int .i64 (128 * (nh : Int))) ∧ W'.drew = w') := Lib.hid (by
      obtain ⟨gl', gm', hv', Dm', hd'⟩ := hdD
      have h := Hangs_any hd' (by have := HH.out.2; omega)
      rw [HNH.out, Int.mul_comm] at h
      exact h)
    have hnh6 : (nh : Int) < 1000000 := by have := HH.out.2; have := HNH.out; omega
    obtain ⟨sp, hsp⟩ : ∃ sp, D.steps = sp := ⟨_, rfl⟩
    obtain ⟨dn, hdn⟩ : ∃ dn, D.down = dn := ⟨_, rfl⟩
    rw [hsp] at HST HRC
    rw [hdn] at HDO HRC
    clear hn hk hS hxl hne hkb hnr hqr x1 x2 x3 x4 x5 hdW hdD hB6 hsp hdn hD' hK'
    go_wp2_with fail
    refine wp_region_noPanic ?_
    refine wp_region_held_drew (S := fun W => Row W bn 3 [.int .i64 nl] ∧ Row W bd 24 [.pointer (some ⟨p, 0, none⟩)] ∧ Row W bq 28 [.pointer (some ⟨q, 0, none⟩)] ∧ Row W q 45 RC) (by kernel_rfl) HS0.out (fun hHeld => ?_)
    refine wpAnyH_take (i := 0) (oi := { dst := some 72, op := Op.load 3 (Operand.tmp 6), type := 3, pos := "law.go:79", after := #[], guard := none }) (v := ?vve_0) rfl (by kernel_rfl) (by kernel_rfl) (by kernel_rfl) (fun _ _ _ h => h) (Or.inl ⟨by rfl, ?yye_0⟩) hHeld ?_
    case vve_0 => exact .int .i64 nl
    case yye_0 =>
      intro W hS
      have q0 := Row.cell hS.1 0
      simp only [List.getElem?_cons_zero] at q0
      go_simp
    try simp only [Act.put, List.setIfInBounds_toArray, List.set_cons_zero, List.set_cons_succ]
    refine wpAnyH_take (i := 1) (oi := { dst := some 73, op := Op.load 28 (Operand.tmp 3), type := 28, pos := "law.go:79", after := #[], guard := none }) (v := ?vve_1) rfl (by kernel_rfl) (by kernel_rfl) (by kernel_rfl) (fun _ _ _ h => h) (Or.inl ⟨by rfl, ?yye_1⟩) hHeld ?_
    case vve_1 => exact Value.pointer (some ⟨q, 0, none⟩)
    case yye_1 =>
      intro W hS
      have q0 := Row.cell hS.2.2.1 0
      simp only [List.getElem?_cons_zero] at q0
      go_simp
    try simp only [Act.put, List.setIfInBounds_toArray, List.set_cons_zero, List.set_cons_succ]
    refine wpAnyH_take (i := 2) (oi := { dst := some 74, op := Op.nilCheck (Operand.tmp 73), type := 0, pos := "law.go:79", after := #[{ on := 1, ground := Ground.data }], guard := none }) (v := ?vve_2) rfl (by kernel_rfl) (by kernel_rfl) (by kernel_rfl) (fun _ _ _ h => h) (Or.inl ⟨by rfl, ?yye_2⟩) hHeld ?_
    case vve_2 => exact Value.pointer (some ⟨q, 0, none⟩)
    case yye_2 =>
      intro W hS
      go_simp
    try simp only [Act.put, List.setIfInBounds_toArray, List.set_cons_zero, List.set_cons_succ]
    refine wpAnyH_take (i := 3) (oi := { dst := some 75, op := Op.fieldAddr 45 (Operand.tmp 74) 0, type := 0, pos := "law.go:79", after := #[{ on := 2, ground := Ground.data }], guard := none }) (v := ?vve_3) rfl (by kernel_rfl) (by kernel_rfl) (by kernel_rfl) (fun _ _ _ h => h) (Or.inl ⟨by rfl, ?yye_3⟩) hHeld ?_
    case vve_3 => exact .pointer (some ⟨q, 0, none⟩)
    case yye_3 =>
      intro W hS
      go_simp
    try simp only [Act.put, List.setIfInBounds_toArray, List.set_cons_zero, List.set_cons_succ]
    refine wpAnyH_take (i := 4) (oi := { dst := some 76, op := Op.load 42 (Operand.tmp 75), type := 42, pos := "law.go:79", after := #[{ on := 3, ground := Ground.data }], guard := none }) (v := ?vve_4) rfl (by kernel_rfl) (by kernel_rfl) (by kernel_rfl) (fun _ _ _ h => h) (Or.inl ⟨by rfl, ?yye_4⟩) hHeld ?_
    case vve_4 => exact .slice (some ⟨gr, 0, none⟩) nl nl
    case yye_4 =>
      intro W hS
      have q0 := Row.cell hS.2.2.2 0
      simp only [HRC.out, List.getElem?_cons_zero, List.getElem?_cons_succ] at q0
      go_simp
    try simp only [Act.put, List.setIfInBounds_toArray, List.set_cons_zero, List.set_cons_succ]
    refine wpAnyH_take (i := 5) (oi := { dst := some 77, op := Op.call { callee := Callee.builtin Builtin.len, args := #[Operand.tmp 76], argTypes := #[42] }, type := 3, pos := "law.go:79", after := #[{ on := 4, ground := Ground.data }], guard := none }) (v := ?vve_5) rfl (by kernel_rfl) (by kernel_rfl) (by kernel_rfl) (fun _ _ _ h => h) (Or.inl ⟨by rfl, ?yye_5⟩) hHeld ?_
    case vve_5 => exact .int .i64 nl
    case yye_5 =>
      intro W hS
      go_simp
    try simp only [Act.put, List.setIfInBounds_toArray, List.set_cons_zero, List.set_cons_succ]
    refine wpAnyH_take (i := 6) (oi := { dst := some 78, op := Op.binOp BinOp.eql 3 (Operand.tmp 72) (Operand.tmp 77) 3, type := 4, pos := "law.go:79", after := #[{ on := 0, ground := Ground.data }, { on := 5, ground := Ground.data }], guard := none }) (v := ?vve_6) rfl (by kernel_rfl) (by kernel_rfl) (by kernel_rfl) (fun _ _ _ h => h) (Or.inl ⟨by rfl, ?yye_6⟩) hHeld ?_
    case vve_6 => exact .bool true
    case yye_6 =>
      intro W hS
      go_simp
    try simp only [Act.put, List.setIfInBounds_toArray, List.set_cons_zero, List.set_cons_succ]
    refine wpAnyH_take (i := 7) (oi := { dst := some 79, op := Op.move (Operand.tmp 78), type := 4, pos := "law.go:79", after := #[{ on := 6, ground := Ground.data }], guard := none }) (v := ?vve_7) rfl (by kernel_rfl) (by kernel_rfl) (by kernel_rfl) (fun _ _ _ h => h) (Or.inl ⟨by rfl, ?yye_7⟩) hHeld ?_
    case vve_7 => exact .bool true
    case yye_7 =>
      intro W hS
      go_simp
    try simp only [Act.put, List.setIfInBounds_toArray, List.set_cons_zero, List.set_cons_succ]
    refine wpAnyH_take (i := 8) (oi := { dst := some 80, op := Op.load 24 (Operand.tmp 2), type := 24, pos := "law.go:79", after := #[{ on := 7, ground := Ground.guard }], guard := some (7, true) }) (v := ?vve_8) rfl (by kernel_rfl) (by kernel_rfl) (by kernel_rfl) (fun _ _ _ h => h) (Or.inl ⟨by rfl, ?yye_8⟩) hHeld ?_
    case vve_8 => exact Value.pointer (some ⟨p, 0, none⟩)
    case yye_8 =>
      intro W hS
      have q0 := Row.cell hS.2.1 0
      simp only [List.getElem?_cons_zero] at q0
      go_simp
    try simp only [Act.put, List.setIfInBounds_toArray, List.set_cons_zero, List.set_cons_succ]
    refine wpAnyH_take (i := 10) (oi := { dst := some 82, op := Op.load 3 (Operand.tmp 6), type := 3, pos := "law.go:79", after := #[{ on := 7, ground := Ground.guard }], guard := some (7, true) }) (v := ?vve_10) rfl (by kernel_rfl) (by kernel_rfl) (by kernel_rfl) (fun _ _ _ h => h) (Or.inl ⟨by rfl, ?yye_10⟩) hHeld ?_
    case vve_10 => exact .int .i64 nl
    case yye_10 =>
      intro W hS
      have q0 := Row.cell hS.1 0
      simp only [List.getElem?_cons_zero] at q0
      go_simp
    try simp only [Act.put, List.setIfInBounds_toArray, List.set_cons_zero, List.set_cons_succ]
    refine wpAnyH_ready (rs := [9]) (by kernel_rfl) (by simp) (AllReadyH.cons (o := { dst := some 81, op := Op.call { callee := Callee.value (Operand.func 58), args := #[Operand.tmp 80], argTypes := #[24] }, type := 3, pos := "law.go:79", after := #[{ on := 8, ground := Ground.data }, { on := 7, ground := Ground.chain }, { on := 7, ground := Ground.guard }], guard := some (7, true) }) rfl (fun K hK => ?_) AllReadyH.nil)
    go_simp
    go_at_call 58
    refine HSE.out.mono ?_
    rintro e w1 ⟨rfl, rfl⟩
    refine hK.out _ _ HS0.out (fun hHeld => ?_)
    clear hK K
    try simp only [Act.put, List.setIfInBounds_toArray, List.set_cons_zero, List.set_cons_succ]
    refine wpAnyH_take (i := 11) (oi := { dst := some 83, op := Op.binOp BinOp.eql 3 (Operand.tmp 81) (Operand.tmp 82) 3, type := 4, pos := "law.go:79", after := #[{ on := 9, ground := Ground.data }, { on := 10, ground := Ground.data }, { on := 7, ground := Ground.guard }], guard := some (7, true) }) (v := ?vve_11) rfl (by kernel_rfl) (by kernel_rfl) (by kernel_rfl) (fun _ _ _ h => h) (Or.inl ⟨by rfl, ?yye_11⟩) hHeld ?_
    case vve_11 => exact .bool true
    case yye_11 =>
      intro W hS
      go_simp
    try simp only [Act.put, List.setIfInBounds_toArray, List.set_cons_zero, List.set_cons_succ]
    refine wpAnyH_take (i := 12) (oi := { dst := some 84, op := Op.pick (Operand.tmp 79) (Operand.tmp 83) (Operand.const (Value.bool false)), type := 4, pos := "law.go:79", after := #[{ on := 7, ground := Ground.data }, { on := 11, ground := Ground.data }], guard := none }) (v := ?vve_12) rfl (by kernel_rfl) (by kernel_rfl) (by kernel_rfl) (fun _ _ _ h => h) (Or.inl ⟨by rfl, ?yye_12⟩) hHeld ?_
    case vve_12 => exact .bool true
    case yye_12 =>
      intro W hS
      go_simp
    try simp only [Act.put, List.setIfInBounds_toArray, List.set_cons_zero, List.set_cons_succ]
    refine wpAnyH_take (i := 13) (oi := { dst := some 85, op := Op.move (Operand.tmp 84), type := 4, pos := "law.go:79", after := #[{ on := 12, ground := Ground.data }, { on := 9, ground := Ground.chain }], guard := none }) (v := ?vve_13) rfl (by kernel_rfl) (by kernel_rfl) (by kernel_rfl) (fun _ _ _ h => h) (Or.inl ⟨by rfl, ?yye_13⟩) hHeld ?_
    case vve_13 => exact .bool true
    case yye_13 =>
      intro W hS
      go_simp
    try simp only [Act.put, List.setIfInBounds_toArray, List.set_cons_zero, List.set_cons_succ]
    refine wpAnyH_take (i := 14) (oi := { dst := some 86, op := Op.load 24 (Operand.tmp 2), type := 24, pos := "law.go:79", after := #[{ on := 13, ground := Ground.guard }], guard := some (13, true) }) (v := ?vve_14) rfl (by kernel_rfl) (by kernel_rfl) (by kernel_rfl) (fun _ _ _ h => h) (Or.inl ⟨by rfl, ?yye_14⟩) hHeld ?_
    case vve_14 => exact Value.pointer (some ⟨p, 0, none⟩)
    case yye_14 =>
      intro W hS
      have q0 := Row.cell hS.2.1 0
      simp only [List.getElem?_cons_zero] at q0
      go_simp
    try simp only [Act.put, List.setIfInBounds_toArray, List.set_cons_zero, List.set_cons_succ]
    refine wpAnyH_take (i := 16) (oi := { dst := some 88, op := Op.load 28 (Operand.tmp 3), type := 28, pos := "law.go:79", after := #[{ on := 13, ground := Ground.guard }], guard := some (13, true) }) (v := ?vve_16) rfl (by kernel_rfl) (by kernel_rfl) (by kernel_rfl) (fun _ _ _ h => h) (Or.inl ⟨by rfl, ?yye_16⟩) hHeld ?_
    case vve_16 => exact Value.pointer (some ⟨q, 0, none⟩)
    case yye_16 =>
      intro W hS
      have q0 := Row.cell hS.2.2.1 0
      simp only [List.getElem?_cons_zero] at q0
      go_simp
    try simp only [Act.put, List.setIfInBounds_toArray, List.set_cons_zero, List.set_cons_succ]
    refine wpAnyH_take (i := 17) (oi := { dst := some 89, op := Op.nilCheck (Operand.tmp 88), type := 0, pos := "law.go:79", after := #[{ on := 16, ground := Ground.data }, { on := 13, ground := Ground.guard }], guard := some (13, true) }) (v := ?vve_17) rfl (by kernel_rfl) (by kernel_rfl) (by kernel_rfl) (fun _ _ _ h => h) (Or.inl ⟨by rfl, ?yye_17⟩) hHeld ?_
    case vve_17 => exact Value.pointer (some ⟨q, 0, none⟩)
    case yye_17 =>
      intro W hS
      go_simp
    try simp only [Act.put, List.setIfInBounds_toArray, List.set_cons_zero, List.set_cons_succ]
    refine wpAnyH_take (i := 18) (oi := { dst := some 90, op := Op.fieldAddr 45 (Operand.tmp 89) 4, type := 0, pos := "law.go:79", after := #[{ on := 17, ground := Ground.data }, { on := 13, ground := Ground.guard }], guard := some (13, true) }) (v := ?vve_18) rfl (by kernel_rfl) (by kernel_rfl) (by kernel_rfl) (fun _ _ _ h => h) (Or.inl ⟨by rfl, ?yye_18⟩) hHeld ?_
    case vve_18 => exact .pointer (some ⟨q, 4, none⟩)
    case yye_18 =>
      intro W hS
      go_simp
    try simp only [Act.put, List.setIfInBounds_toArray, List.set_cons_zero, List.set_cons_succ]
    refine wpAnyH_take (i := 19) (oi := { dst := some 91, op := Op.load 4 (Operand.tmp 90), type := 4, pos := "law.go:79", after := #[{ on := 18, ground := Ground.data }, { on := 13, ground := Ground.guard }], guard := some (13, true) }) (v := ?vve_19) rfl (by kernel_rfl) (by kernel_rfl) (by kernel_rfl) (fun _ _ _ h => h) (Or.inl ⟨by rfl, ?yye_19⟩) hHeld ?_
    case vve_19 => exact .bool dn
    case yye_19 =>
      intro W hS
      have q0 := Row.cell hS.2.2.2 4
      simp only [HRC.out, List.getElem?_cons_zero, List.getElem?_cons_succ] at q0
      go_simp
    try simp only [Act.put, List.setIfInBounds_toArray, List.set_cons_zero, List.set_cons_succ]
    refine wpAnyH_ready (rs := [15]) (by kernel_rfl) (by simp) (AllReadyH.cons (o := { dst := some 87, op := Op.call { callee := Callee.value (Operand.func 59), args := #[Operand.tmp 86], argTypes := #[24] }, type := 4, pos := "law.go:79", after := #[{ on := 14, ground := Ground.data }, { on := 13, ground := Ground.chain }, { on := 13, ground := Ground.guard }], guard := some (13, true) }) rfl (fun K hK => ?_) AllReadyH.nil)
    go_simp
    go_at_call 59
    refine HDO.out.mono ?_
    rintro e w1 ⟨rfl, rfl⟩
    refine hK.out _ _ HS0.out (fun hHeld => ?_)
    clear hK K
    try simp only [Act.put, List.setIfInBounds_toArray, List.set_cons_zero, List.set_cons_succ]
    refine wpAnyH_take (i := 20) (oi := { dst := some 92, op := Op.binOp BinOp.eql 4 (Operand.tmp 87) (Operand.tmp 91) 4, type := 4, pos := "law.go:79", after := #[{ on := 15, ground := Ground.data }, { on := 19, ground := Ground.data }, { on := 13, ground := Ground.guard }], guard := some (13, true) }) (v := ?vve_20) rfl (by kernel_rfl) (by kernel_rfl) (by kernel_rfl) (fun _ _ _ h => h) (Or.inl ⟨by rfl, ?yye_20⟩) hHeld ?_
    case vve_20 => exact .bool true
    case yye_20 =>
      intro W hS
      go_simp
    try simp only [Act.put, List.setIfInBounds_toArray, List.set_cons_zero, List.set_cons_succ]
    refine wpAnyH_take (i := 21) (oi := { dst := some 93, op := Op.pick (Operand.tmp 85) (Operand.tmp 92) (Operand.const (Value.bool false)), type := 4, pos := "law.go:79", after := #[{ on := 13, ground := Ground.data }, { on := 20, ground := Ground.data }], guard := none }) (v := ?vve_21) rfl (by kernel_rfl) (by kernel_rfl) (by kernel_rfl) (fun _ _ _ h => h) (Or.inl ⟨by rfl, ?yye_21⟩) hHeld ?_
    case vve_21 => exact .bool true
    case yye_21 =>
      intro W hS
      go_simp
    try simp only [Act.put, List.setIfInBounds_toArray, List.set_cons_zero, List.set_cons_succ]
    refine wpAnyH_take (i := 22) (oi := { dst := some 94, op := Op.move (Operand.tmp 93), type := 4, pos := "law.go:79", after := #[{ on := 21, ground := Ground.data }, { on := 15, ground := Ground.chain }], guard := none }) (v := ?vve_22) rfl (by kernel_rfl) (by kernel_rfl) (by kernel_rfl) (fun _ _ _ h => h) (Or.inl ⟨by rfl, ?yye_22⟩) hHeld ?_
    case vve_22 => exact .bool true
    case yye_22 =>
      intro W hS
      go_simp
    try simp only [Act.put, List.setIfInBounds_toArray, List.set_cons_zero, List.set_cons_succ]
    refine wpAnyH_take (i := 23) (oi := { dst := some 95, op := Op.load 24 (Operand.tmp 2), type := 24, pos := "law.go:79", after := #[{ on := 22, ground := Ground.guard }], guard := some (22, true) }) (v := ?vve_23) rfl (by kernel_rfl) (by kernel_rfl) (by kernel_rfl) (fun _ _ _ h => h) (Or.inl ⟨by rfl, ?yye_23⟩) hHeld ?_
    case vve_23 => exact Value.pointer (some ⟨p, 0, none⟩)
    case yye_23 =>
      intro W hS
      have q0 := Row.cell hS.2.1 0
      simp only [List.getElem?_cons_zero] at q0
      go_simp
    try simp only [Act.put, List.setIfInBounds_toArray, List.set_cons_zero, List.set_cons_succ]
    refine wpAnyH_take (i := 25) (oi := { dst := some 97, op := Op.load 28 (Operand.tmp 3), type := 28, pos := "law.go:79", after := #[{ on := 22, ground := Ground.guard }], guard := some (22, true) }) (v := ?vve_25) rfl (by kernel_rfl) (by kernel_rfl) (by kernel_rfl) (fun _ _ _ h => h) (Or.inl ⟨by rfl, ?yye_25⟩) hHeld ?_
    case vve_25 => exact Value.pointer (some ⟨q, 0, none⟩)
    case yye_25 =>
      intro W hS
      have q0 := Row.cell hS.2.2.1 0
      simp only [List.getElem?_cons_zero] at q0
      go_simp
    try simp only [Act.put, List.setIfInBounds_toArray, List.set_cons_zero, List.set_cons_succ]
    refine wpAnyH_take (i := 26) (oi := { dst := some 98, op := Op.nilCheck (Operand.tmp 97), type := 0, pos := "law.go:79", after := #[{ on := 25, ground := Ground.data }, { on := 22, ground := Ground.guard }], guard := some (22, true) }) (v := ?vve_26) rfl (by kernel_rfl) (by kernel_rfl) (by kernel_rfl) (fun _ _ _ h => h) (Or.inl ⟨by rfl, ?yye_26⟩) hHeld ?_
    case vve_26 => exact Value.pointer (some ⟨q, 0, none⟩)
    case yye_26 =>
      intro W hS
      go_simp
    try simp only [Act.put, List.setIfInBounds_toArray, List.set_cons_zero, List.set_cons_succ]
    refine wpAnyH_take (i := 27) (oi := { dst := some 99, op := Op.fieldAddr 45 (Operand.tmp 98) 2, type := 0, pos := "law.go:79", after := #[{ on := 26, ground := Ground.data }, { on := 22, ground := Ground.guard }], guard := some (22, true) }) (v := ?vve_27) rfl (by kernel_rfl) (by kernel_rfl) (by kernel_rfl) (fun _ _ _ h => h) (Or.inl ⟨by rfl, ?yye_27⟩) hHeld ?_
    case vve_27 => exact .pointer (some ⟨q, 2, none⟩)
    case yye_27 =>
      intro W hS
      go_simp
    try simp only [Act.put, List.setIfInBounds_toArray, List.set_cons_zero, List.set_cons_succ]
    refine wpAnyH_take (i := 28) (oi := { dst := some 100, op := Op.load 3 (Operand.tmp 99), type := 3, pos := "law.go:79", after := #[{ on := 27, ground := Ground.data }, { on := 22, ground := Ground.guard }], guard := some (22, true) }) (v := ?vve_28) rfl (by kernel_rfl) (by kernel_rfl) (by kernel_rfl) (fun _ _ _ h => h) (Or.inl ⟨by rfl, ?yye_28⟩) hHeld ?_
    case vve_28 => exact .int .i64 sp
    case yye_28 =>
      intro W hS
      have q0 := Row.cell hS.2.2.2 2
      simp only [HRC.out, List.getElem?_cons_zero, List.getElem?_cons_succ] at q0
      go_simp
    try simp only [Act.put, List.setIfInBounds_toArray, List.set_cons_zero, List.set_cons_succ]
    refine wpAnyH_ready (rs := [24]) (by kernel_rfl) (by simp) (AllReadyH.cons (o := { dst := some 96, op := Op.call { callee := Callee.value (Operand.func 24), args := #[Operand.tmp 95], argTypes := #[24] }, type := 3, pos := "law.go:79", after := #[{ on := 23, ground := Ground.data }, { on := 22, ground := Ground.chain }, { on := 22, ground := Ground.guard }], guard := some (22, true) }) rfl (fun K hK => ?_) AllReadyH.nil)
    go_simp
    go_at_call 24
    refine HST.out.mono ?_
    rintro e w1 ⟨rfl, rfl⟩
    refine hK.out _ _ HS0.out (fun hHeld => ?_)
    clear hK K
    try simp only [Act.put, List.setIfInBounds_toArray, List.set_cons_zero, List.set_cons_succ]
    refine wpAnyH_take (i := 29) (oi := { dst := some 101, op := Op.binOp BinOp.eql 3 (Operand.tmp 96) (Operand.tmp 100) 3, type := 4, pos := "law.go:79", after := #[{ on := 24, ground := Ground.data }, { on := 28, ground := Ground.data }, { on := 22, ground := Ground.guard }], guard := some (22, true) }) (v := ?vve_29) rfl (by kernel_rfl) (by kernel_rfl) (by kernel_rfl) (fun _ _ _ h => h) (Or.inl ⟨by rfl, ?yye_29⟩) hHeld ?_
    case vve_29 => exact .bool true
    case yye_29 =>
      intro W hS
      go_simp
    try simp only [Act.put, List.setIfInBounds_toArray, List.set_cons_zero, List.set_cons_succ]
    refine wpAnyH_take (i := 30) (oi := { dst := some 102, op := Op.pick (Operand.tmp 94) (Operand.tmp 101) (Operand.const (Value.bool false)), type := 4, pos := "law.go:79", after := #[{ on := 22, ground := Ground.data }, { on := 29, ground := Ground.data }], guard := none }) (v := ?vve_30) rfl (by kernel_rfl) (by kernel_rfl) (by kernel_rfl) (fun _ _ _ h => h) (Or.inl ⟨by rfl, ?yye_30⟩) hHeld ?_
    case vve_30 => exact .bool true
    case yye_30 =>
      intro W hS
      go_simp
    try simp only [Act.put, List.setIfInBounds_toArray, List.set_cons_zero, List.set_cons_succ]
    refine wpAnyH_take (i := 31) (oi := { dst := some 103, op := Op.move (Operand.tmp 102), type := 4, pos := "law.go:79", after := #[{ on := 30, ground := Ground.data }, { on := 24, ground := Ground.chain }], guard := none }) (v := ?vve_31) rfl (by kernel_rfl) (by kernel_rfl) (by kernel_rfl) (fun _ _ _ h => h) (Or.inl ⟨by rfl, ?yye_31⟩) hHeld ?_
    case vve_31 => exact .bool true
    case yye_31 =>
      intro W hS
      go_simp
    try simp only [Act.put, List.setIfInBounds_toArray, List.set_cons_zero, List.set_cons_succ]
    refine wpAnyH_take (i := 32) (oi := { dst := some 104, op := Op.load 24 (Operand.tmp 2), type := 24, pos := "law.go:79", after := #[{ on := 31, ground := Ground.guard }], guard := some (31, true) }) (v := ?vve_32) rfl (by kernel_rfl) (by kernel_rfl) (by kernel_rfl) (fun _ _ _ h => h) (Or.inl ⟨by rfl, ?yye_32⟩) hHeld ?_
    case vve_32 => exact Value.pointer (some ⟨p, 0, none⟩)
    case yye_32 =>
      intro W hS
      have q0 := Row.cell hS.2.1 0
      simp only [List.getElem?_cons_zero] at q0
      go_simp
    try simp only [Act.put, List.setIfInBounds_toArray, List.set_cons_zero, List.set_cons_succ]
    refine wpAnyH_take (i := 34) (oi := { dst := some 106, op := Op.load 28 (Operand.tmp 3), type := 28, pos := "law.go:79", after := #[{ on := 31, ground := Ground.guard }], guard := some (31, true) }) (v := ?vve_34) rfl (by kernel_rfl) (by kernel_rfl) (by kernel_rfl) (fun _ _ _ h => h) (Or.inl ⟨by rfl, ?yye_34⟩) hHeld ?_
    case vve_34 => exact Value.pointer (some ⟨q, 0, none⟩)
    case yye_34 =>
      intro W hS
      have q0 := Row.cell hS.2.2.1 0
      simp only [List.getElem?_cons_zero] at q0
      go_simp
    try simp only [Act.put, List.setIfInBounds_toArray, List.set_cons_zero, List.set_cons_succ]
    refine wpAnyH_take (i := 35) (oi := { dst := some 107, op := Op.nilCheck (Operand.tmp 106), type := 0, pos := "law.go:79", after := #[{ on := 34, ground := Ground.data }, { on := 31, ground := Ground.guard }], guard := some (31, true) }) (v := ?vve_35) rfl (by kernel_rfl) (by kernel_rfl) (by kernel_rfl) (fun _ _ _ h => h) (Or.inl ⟨by rfl, ?yye_35⟩) hHeld ?_
    case vve_35 => exact Value.pointer (some ⟨q, 0, none⟩)
    case yye_35 =>
      intro W hS
      go_simp
    try simp only [Act.put, List.setIfInBounds_toArray, List.set_cons_zero, List.set_cons_succ]
    refine wpAnyH_take (i := 36) (oi := { dst := some 108, op := Op.fieldAddr 45 (Operand.tmp 107) 1, type := 0, pos := "law.go:79", after := #[{ on := 35, ground := Ground.data }, { on := 31, ground := Ground.guard }], guard := some (31, true) }) (v := ?vve_36) rfl (by kernel_rfl) (by kernel_rfl) (by kernel_rfl) (fun _ _ _ h => h) (Or.inl ⟨by rfl, ?yye_36⟩) hHeld ?_
    case vve_36 => exact .pointer (some ⟨q, 1, none⟩)
    case yye_36 =>
      intro W hS
      go_simp
    try simp only [Act.put, List.setIfInBounds_toArray, List.set_cons_zero, List.set_cons_succ]
    refine wpAnyH_take (i := 37) (oi := { dst := some 109, op := Op.load 43 (Operand.tmp 108), type := 43, pos := "law.go:79", after := #[{ on := 36, ground := Ground.data }, { on := 31, ground := Ground.guard }], guard := some (31, true) }) (v := ?vve_37) rfl (by kernel_rfl) (by kernel_rfl) (by kernel_rfl) (fun _ _ _ h => h) (Or.inl ⟨by rfl, ?yye_37⟩) hHeld ?_
    case vve_37 => exact .slice ha nh hc
    case yye_37 =>
      intro W hS
      have q0 := Row.cell hS.2.2.2 1
      simp only [HRC.out, List.getElem?_cons_zero, List.getElem?_cons_succ] at q0
      go_simp
    try simp only [Act.put, List.setIfInBounds_toArray, List.set_cons_zero, List.set_cons_succ]
    refine wpAnyH_take (i := 38) (oi := { dst := some 110, op := Op.call { callee := Callee.builtin Builtin.len, args := #[Operand.tmp 109], argTypes := #[43] }, type := 3, pos := "law.go:79", after := #[{ on := 37, ground := Ground.data }, { on := 31, ground := Ground.guard }], guard := some (31, true) }) (v := ?vve_38) rfl (by kernel_rfl) (by kernel_rfl) (by kernel_rfl) (fun _ _ _ h => h) (Or.inl ⟨by rfl, ?yye_38⟩) hHeld ?_
    case vve_38 => exact .int .i64 nh
    case yye_38 =>
      intro W hS
      go_simp
    try simp only [Act.put, List.setIfInBounds_toArray, List.set_cons_zero, List.set_cons_succ]
    refine wpAnyH_take (i := 39) (oi := { dst := some 111, op := Op.binOp BinOp.mul 3 (Operand.const (Value.int IntKind.i64 128)) (Operand.tmp 110) 3, type := 3, pos := "law.go:79", after := #[{ on := 38, ground := Ground.data }, { on := 31, ground := Ground.guard }], guard := some (31, true) }) (v := ?vve_39) rfl (by kernel_rfl) (by kernel_rfl) (by kernel_rfl) (fun _ _ _ h => h) (Or.inl ⟨by rfl, ?yye_39⟩) hHeld ?_
    case vve_39 => exact .int .i64 (128 * (nh : Int))
    case yye_39 =>
      intro W hS
      go_simp
      rw [IntKind.wrap_i64]
      omega
    try simp only [Act.put, List.setIfInBounds_toArray, List.set_cons_zero, List.set_cons_succ]
    refine wpAnyH_ready (rs := [33]) (by kernel_rfl) (by simp) (AllReadyH.cons (o := { dst := some 105, op := Op.call { callee := Callee.value (Operand.func 60), args := #[Operand.tmp 104], argTypes := #[24] }, type := 3, pos := "law.go:79", after := #[{ on := 32, ground := Ground.data }, { on := 31, ground := Ground.chain }, { on := 31, ground := Ground.guard }], guard := some (31, true) }) rfl (fun K hK => ?_) AllReadyH.nil)
    go_simp
    go_at_call 60
    refine HHA.out.mono ?_
    rintro e w1 ⟨rfl, rfl⟩
    refine hK.out _ _ HS0.out (fun hHeld => ?_)
    clear hK K
    try simp only [Act.put, List.setIfInBounds_toArray, List.set_cons_zero, List.set_cons_succ]
    refine wpAnyH_take (i := 40) (oi := { dst := some 112, op := Op.binOp BinOp.eql 3 (Operand.tmp 105) (Operand.tmp 111) 3, type := 4, pos := "law.go:79", after := #[{ on := 33, ground := Ground.data }, { on := 39, ground := Ground.data }, { on := 31, ground := Ground.guard }], guard := some (31, true) }) (v := ?vve_40) rfl (by kernel_rfl) (by kernel_rfl) (by kernel_rfl) (fun _ _ _ h => h) (Or.inl ⟨by rfl, ?yye_40⟩) hHeld ?_
    case vve_40 => exact .bool true
    case yye_40 =>
      intro W hS
      go_simp
    try simp only [Act.put, List.setIfInBounds_toArray, List.set_cons_zero, List.set_cons_succ]
    refine wpAnyH_take (i := 41) (oi := { dst := some 113, op := Op.pick (Operand.tmp 103) (Operand.tmp 112) (Operand.const (Value.bool false)), type := 4, pos := "law.go:79", after := #[{ on := 31, ground := Ground.data }, { on := 40, ground := Ground.data }], guard := none }) (v := ?vve_41) rfl (by kernel_rfl) (by kernel_rfl) (by kernel_rfl) (fun _ _ _ h => h) (Or.inl ⟨by rfl, ?yye_41⟩) hHeld ?_
    case vve_41 => exact .bool true
    case yye_41 =>
      intro W hS
      go_simp
    try simp only [Act.put, List.setIfInBounds_toArray, List.set_cons_zero, List.set_cons_succ]
    refine wpAnyH_ready (rs := [42]) (by kernel_rfl) (by simp) (AllReadyH.cons (o := { dst := none, op := Op.store 4 (Operand.tmp 4) (Operand.tmp 113), type := 0, pos := "law.go:79", after := #[{ on := 41, ground := Ground.data }, { on := 33, ground := Ground.chain }, { on := 0, ground := Ground.phase }, { on := 1, ground := Ground.phase }, { on := 2, ground := Ground.phase }, { on := 3, ground := Ground.phase }, { on := 4, ground := Ground.phase }, { on := 5, ground := Ground.phase }, { on := 6, ground := Ground.phase }, { on := 7, ground := Ground.phase }, { on := 8, ground := Ground.phase }, { on := 9, ground := Ground.phase }, { on := 10, ground := Ground.phase }, { on := 11, ground := Ground.phase }, { on := 12, ground := Ground.phase }, { on := 13, ground := Ground.phase }, { on := 14, ground := Ground.phase }, { on := 15, ground := Ground.phase }, { on := 16, ground := Ground.phase }, { on := 17, ground := Ground.phase }, { on := 18, ground := Ground.phase }, { on := 19, ground := Ground.phase }, { on := 20, ground := Ground.phase }, { on := 21, ground := Ground.phase }, { on := 22, ground := Ground.phase }, { on := 23, ground := Ground.phase }, { on := 24, ground := Ground.phase }, { on := 25, ground := Ground.phase }, { on := 26, ground := Ground.phase }, { on := 27, ground := Ground.phase }, { on := 28, ground := Ground.phase }, { on := 29, ground := Ground.phase }, { on := 30, ground := Ground.phase }, { on := 31, ground := Ground.phase }, { on := 32, ground := Ground.phase }, { on := 33, ground := Ground.phase }, { on := 34, ground := Ground.phase }, { on := 35, ground := Ground.phase }, { on := 36, ground := Ground.phase }, { on := 37, ground := Ground.phase }, { on := 38, ground := Ground.phase }, { on := 39, ground := Ground.phase }, { on := 40, ground := Ground.phase }, { on := 41, ground := Ground.phase }], guard := none }) rfl (fun K hK => ?_) AllReadyH.nil)
    have r5 := (Row.drew HR5.out.1).cell 0
    have f5 := (Row.drew HR5.out.1).frozen 0
    simp only [List.getElem?_cons_zero] at r5
    go_simp
    refine hK.out _ _ HS6.out (fun hHeld => ?_)
    clear hK K r5 f5
    try simp only [Act.put, List.setIfInBounds_toArray, List.set_cons_zero, List.set_cons_succ]
    refine wpAnyH_done (by kernel_rfl) ?_ _
    refine NoPanic.normal ?_

    go_wp2_with fail
    obtain ⟨x5, hK', hB6, hD'⟩ := HR5.out
    have hne := HN.out
    have hK5 : ((W'.setCell ⟨br, 0, none⟩ (.bool true)).drew).heap[D']? = some (.deferred (some [])) := (Below.heap_setCell W' ⟨br, 0, none⟩ (.bool true) D' (by show D' ≠ br; omega)).trans hK'
    have hB7 : Below w.heap.size w ((W'.setCell ⟨br, 0, none⟩ (.bool true)).drew) := below_drewK (hB6.setCell (p := ⟨br, 0, none⟩) (by show w.heap.size ≤ br; omega) _) 1
    have hR6 : (((W'.setCell ⟨br, 0, none⟩ (.bool true)).drew).putObj D' (.deferred none)).cell? ⟨br, 0, none⟩ = some (.bool true) := by
      have h2 : Boxed (((W'.setCell ⟨br, 0, none⟩ (.bool true)).drew).putObj D' (.deferred none)) br 4 (.bool true) := (World.putObj_heap_other (by omega)).trans (Row.drew (x5.set 0 (.bool true)))
      exact h2.cell
    refine ⟨by simp, .inl ⟨_, _, rfl, run_takeDeferred hK5, ?_⟩⟩
    exact ⟨.bool true, by simp [results, Tryz.f22, go_sem, hR6], rfl, hB7.trans (belowK_b (w := w) (Nat.le_refl _) _ D' _ _ (by omega) hK5 rfl rfl)⟩
end
end Go.Proofs.YtiaaeniopjpfpaaGreatDoor
