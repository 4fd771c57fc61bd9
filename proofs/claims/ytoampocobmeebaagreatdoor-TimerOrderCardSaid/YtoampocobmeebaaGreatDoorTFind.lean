/- The place of an id in a queue. -/
import Derived.Test.YtoampocobmeebaaGreatDoorTFind1
namespace Go.Proofs.YtoampocobmeebaaGreatDoor.Tm
open Go.RowKit
set_option linter.unusedVariables false
set_option linter.unusedSimpArgs false
theorem ret_intE {k : IntKind} {a b : Int} (h : a = b) : Ending.returned (.int k a) = .returned (.int k b) := by rw [h]

/-- The place as a number: -1, where it isn't there. -/
def idxQ (l : List EN) (u : List UInt8) : Int := match plcQ l u with
  | some i => i
  | none => -1
theorem idxQ_at {l : List EN} {u : List UInt8} {j : Nat} (hj : j < l.length) (h1 : l[j].uid = u) (h2 : ∀ k (hk : k < l.length), k < j → l[k].uid ≠ u) : idxQ l u = j := by
  have : plcQ l u = some j := by
    unfold plcQ
    rw [List.findIdx?_eq_some_iff_getElem]
    exact ⟨hj, by simpa using h1, fun k hk => by simpa using h2 k (Nat.lt_trans hk hj) hk⟩
  unfold idxQ
  rw [this]
theorem idxQ_end {l : List EN} {u : List UInt8} (h2 : ∀ k (hk : k < l.length), k < l.length → l[k].uid ≠ u) : idxQ l u = -1 := by
  have : plcQ l u = none := plcQ_none.2 fun x hx => by
    obtain ⟨k, hk, rfl⟩ := List.getElem_of_mem hx
    exact h2 k hk hk
  unfold idxQ
  rw [this]

set_option maxRecDepth 20000 in
set_option maxHeartbeats 4000000 in
theorem IndexFunc_any (l : List EN) (h64 : l.length ≤ 64) (u : List UInt8) (hu : u.length = 16) (b : Nat) (s : Value) (w : World) (hT : TBL w s l) (hb : Row w b 25 (u.map bv)) :
    Calls Tryz.prog 29 #[s, .func (.func 30) #[] #[.pointer (some ⟨b, 0, none⟩)]] w fun e w' => e = .returned (.int .i64 (idxQ l u)) ∧ Below w.heap.size w w' := by
  obtain ⟨a, cap, rfl⟩ := hT.slice
  have HT := Lib.hid hT
  have HB := Lib.hid hb
  have HU := Lib.hid hu
  obtain ⟨R, hR⟩ : ∃ R, idxQ l u = R := ⟨_, rfl⟩
  rw [hR]
  have HR := Lib.hid hR
  clear hT hb hR hu
  go_enter Tryz.func29, Tryz.ntmps29
  go_wp2
  go_loopw [8] (fun i wr => ∃ j : Nat, i = .int .i64 j ∧ j ≤ l.length ∧ Hid ((∀ k (hk : k < l.length), k < j → l[k].uid ≠ u) ∧ Below w.heap.size w wr)) (fun i _ => l.length - (intOf i).toNat)
  case atStart => exact ⟨0, rfl, Nat.zero_le _, Lib.hid ⟨fun k hk h0 => absurd h0 (Nat.not_lt_zero _), Below.refl _ _⟩⟩
  case round =>
    obtain ⟨j, rfl, hj, HW⟩ := hrel
    by_cases hlt : j < l.length
    · have hltI : (j : Int) < (l.length : Int) := by omega
      obtain ⟨g, cap', he, hg, hrng⟩ := (HT.out.below HW.out.2).cell j hlt
      injection he with he1 he2 he3
      subst he1 he3
      clear he2
      have hld := Lib.hid hrng
      have hcl := cells_len l[j]
      have HK := Lib.hid (fun W h => place1_any l[j] u HU.out b W h)
      have HRw := Lib.hid (HB.out.below HW.out.2 HB.out.lt)
      have HY : Hid (l[j].uid = u → R = j) := Lib.hid fun h => HR.out.symm.trans (idxQ_at hlt h HW.out.1)
      have HN : Hid (l[j].uid ≠ u → ∀ k (hk : k < l.length), k < j + 1 → l[k].uid ≠ u) := Lib.hid fun h k hk hkj => by
        by_cases hkk : k = j
        · subst hkk; exact h
        · exact HW.out.1 k hk (by omega)
      obtain ⟨x, hx⟩ : ∃ x, l[j] = x := ⟨_, rfl⟩
      rw [hx] at hld HK HY HN hcl
      clear hrng hx
      obtain ⟨C, hC⟩ : ∃ C, x.cells = C := ⟨_, rfl⟩
      rw [hC] at hld HK hcl
      clear hC
      by_cases hxu : x.uid = u
      · have HYR := Lib.hid (HY.out hxu)
        rw [decide_eq_true hxu] at HK
        clear HY HN hxu
        go_wp2_with (refine ld_ent rfl (.tmp 14) rfl g (j * 17) rfl C hcl hld.out ?_)
        refine (HK.out _ HRw.out).mono ?_
        rintro e w1 ⟨rfl, hb1⟩
        have B1 := Lib.hid (HW.out.2.trans (hb1.mono HW.out.2.size))
        clear hb1 hld
        go_wp2
        try rw [Exit.noGoto_ret]
        go_ret
        exact ⟨ret_intE HYR.out.symm, B1.out⟩
      · have HNN := Lib.hid (HN.out hxu)
        rw [decide_eq_false hxu] at HK
        clear HY HN hxu
        go_wp2_with (refine ld_ent rfl (.tmp 14) rfl g (j * 17) rfl C hcl hld.out ?_)
        refine (HK.out _ HRw.out).mono ?_
        rintro e w1 ⟨rfl, hb1⟩
        have B1 := Lib.hid (HW.out.2.trans (hb1.mono HW.out.2.size))
        clear hb1 hld
        go_wp2
        go_roundw
        case rel => exact ⟨j + 1, by go_num, by omega, Lib.hid ⟨HNN.out, B1.out⟩⟩
        case measure => simp [intOf]; omega
    · have hltI : ¬ (j : Int) < (l.length : Int) := by omega
      have hjl : j = l.length := by omega
      have HRE : Hid (R = -1) := Lib.hid (HR.out.symm.trans (idxQ_end (fun k hk _ => HW.out.1 k hk (by omega))))
      clear hjl
      go_wp2
      go_ret
      exact ⟨ret_intE HRE.out.symm, HW.out.2⟩

set_option maxHeartbeats 1000000 in
theorem place_any (l : List EN) (h64 : l.length ≤ 64) (u : List UInt8) (hu : u.length = 16) (s : Value) (w : World) (hT : TBL w s l) :
    Calls Tryz.prog 20 #[.agg #[s], .agg (u.map bv).toArray] w fun e w' => e = .returned (.int .i64 (idxQ l u)) ∧ Below w.heap.size w w' := by
  obtain ⟨a, cap, rfl⟩ := hT.slice
  have B0 := ((Below.refl w.heap.size w).alloc (Nat.le_refl _) (.cells #[Value.slice a l.length cap] 29)).alloc (by simp) (.cells (u.map bv).toArray 25)
  have r0 := (Row.new w 29 [Value.slice a l.length cap]).alloc (.cells (u.map bv).toArray 25)
  have r1 := Row.new (w.alloc (.cells #[Value.slice a l.length cap] 29)) 25 (u.map bv)
  rw [World.size_alloc] at r1
  change Row ((w.alloc (.cells #[Value.slice a l.length cap] 29)).alloc (.cells (u.map bv).toArray 25)) w.heap.size 29 [Value.slice a l.length cap] at r0
  have HS := Lib.hid (fun W h h' => IndexFunc_any l h64 u hu (w.heap.size + 1) (.slice a l.length cap) W h h')
  have HT := Lib.hid (hT.below B0)
  obtain ⟨D, hD⟩ : ∃ D, u.map bv = D := ⟨_, rfl⟩
  rw [hD] at B0 r0 r1 HT HS ⊢
  have c0 := r0.cell 0
  simp only [List.getElem?_cons_zero] at c0
  have HB0 := Lib.hid (And.intro B0 r1)
  obtain ⟨R, hR⟩ : ∃ R, idxQ l u = R := ⟨_, rfl⟩
  rw [hR] at HS ⊢
  clear hT hR B0 r0 r1 hD
  go_enter Tryz.func20, Tryz.ntmps20
  go_wp2_with fail
  refine (HS.out _ HT.out HB0.out.2).mono ?_
  rintro e w1 ⟨rfl, hb⟩
  have B1 := Lib.hid (HB0.out.1.trans (hb.mono HB0.out.1.size))
  clear hb
  go_wp2
  go_ret
  exact ⟨rfl, B1.out⟩
end Go.Proofs.YtoampocobmeebaaGreatDoor.Tm
