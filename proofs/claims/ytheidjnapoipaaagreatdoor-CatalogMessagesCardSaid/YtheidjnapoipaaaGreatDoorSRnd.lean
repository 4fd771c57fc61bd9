/- One round of the sum. -/
import Derived.Deep.DeepCutAuto
import Derived.Deep.WholeRow
import Derived.Test.YtheidjnapoipaaaGreatDoorSSmall
namespace Go.Proofs.YtheidjnapoipaaaGreatDoor
open Go.RowKit
set_option linter.unusedVariables false

/-- The state as a value. -/
def s8v (s : S8) : Value := .agg (s8l s).toArray

theorem s8_info : (Tryz.prog.info? 169).map (fun i => (i.zero, i.size)) = some (some (.agg #[.int .u32 0, .int .u32 0, .int .u32 0, .int .u32 0, .int .u32 0, .int .u32 0, .int .u32 0, .int .u32 0]), 8) := by kernel_rfl
theorem s8_size : (Tryz.prog.info? 169).map (·.size) = some 8 := (zero_of_info s8_info).2

/-- A row of eight, laid anew cell by cell. -/
theorem row8 {W : World} {g : Nat} {t : TypeId} {z0 z1 z2 z3 z4 z5 z6 z7 : Value} (h : Row W g t [z0, z1, z2, z3, z4, z5, z6, z7]) (v0 v1 v2 v3 v4 v5 v6 v7 : Value) :
    Row ((((((((W.setCell ⟨g, 0, none⟩ v0).setCell ⟨g, 1, none⟩ v1).setCell ⟨g, 2, none⟩ v2).setCell ⟨g, 3, none⟩ v3).setCell ⟨g, 4, none⟩ v4).setCell ⟨g, 5, none⟩ v5).setCell ⟨g, 6, none⟩ v6).setCell ⟨g, 7, none⟩ v7) g t [v0, v1, v2, v3, v4, v5, v6, v7] :=
  (((((((h.set 0 v0).set 1 v1).set 2 v2).set 3 v3).set 4 v4).set 5 v5).set 6 v6).set 7 v7
theorem below8 {B : Nat} {w W : World} {g : Nat} (h : Below B w W) (hg : B ≤ g) (v0 v1 v2 v3 v4 v5 v6 v7 : Value) :
    Below B w ((((((((W.setCell ⟨g, 0, none⟩ v0).setCell ⟨g, 1, none⟩ v1).setCell ⟨g, 2, none⟩ v2).setCell ⟨g, 3, none⟩ v3).setCell ⟨g, 4, none⟩ v4).setCell ⟨g, 5, none⟩ v5).setCell ⟨g, 6, none⟩ v6).setCell ⟨g, 7, none⟩ v7) :=
  (((((((h.setCell (p := ⟨g, 0, none⟩) hg v0).setCell (p := ⟨g, 1, none⟩) hg v1).setCell (p := ⟨g, 2, none⟩) hg v2).setCell (p := ⟨g, 3, none⟩) hg v3).setCell (p := ⟨g, 4, none⟩) hg v4).setCell (p := ⟨g, 5, none⟩) hg v5).setCell (p := ⟨g, 6, none⟩) hg v6).setCell (p := ⟨g, 7, none⟩) hg v7

set_option maxHeartbeats 1000000 in
theorem round_any (s : S8) (k : UInt32) (w : World) :
    Calls Tryz.prog 157 #[s8v s, .int .u32 k.toNat] w fun e w' => e = .returned (s8v (rnd s k)) ∧ Below w.heap.size w w' := by
  have hz := (zero_of_info s8_info).1
  obtain ⟨S, HS⟩ : ∃ S, Hid (rnd s k = S) := ⟨_, Lib.hid rfl⟩
  obtain ⟨a, b, c, d, e, f, g, o⟩ := s
  have hR : Row ((w.alloc (.cells #[.int .u32 a.toNat, .int .u32 b.toNat, .int .u32 c.toNat, .int .u32 d.toNat, .int .u32 e.toNat, .int .u32 f.toNat, .int .u32 g.toNat, .int .u32 o.toNat] 169)).alloc (.cells #[.int .u32 0, .int .u32 0, .int .u32 0, .int .u32 0, .int .u32 0, .int .u32 0, .int .u32 0, .int .u32 0] 169)) (w.heap.size + 1) 169 [.int .u32 0, .int .u32 0, .int .u32 0, .int .u32 0, .int .u32 0, .int .u32 0, .int .u32 0, .int .u32 0] := by
    have := Row.new (w.alloc (.cells #[.int .u32 a.toNat, .int .u32 b.toNat, .int .u32 c.toNat, .int .u32 d.toNat, .int .u32 e.toNat, .int .u32 f.toNat, .int .u32 g.toNat, .int .u32 o.toNat] 169)) 169 [.int .u32 0, .int .u32 0, .int .u32 0, .int .u32 0, .int .u32 0, .int .u32 0, .int .u32 0, .int .u32 0]
    rw [World.size_alloc] at this
    exact this
  have hBel : Below w.heap.size w ((w.alloc (.cells #[.int .u32 a.toNat, .int .u32 b.toNat, .int .u32 c.toNat, .int .u32 d.toNat, .int .u32 e.toNat, .int .u32 f.toNat, .int .u32 g.toNat, .int .u32 o.toNat] 169)).alloc (.cells #[.int .u32 0, .int .u32 0, .int .u32 0, .int .u32 0, .int .u32 0, .int .u32 0, .int .u32 0, .int .u32 0] 169)) := ((Below.refl _ _).alloc (Nat.le_refl _) _).alloc (by simp) _
  have HR := Lib.hid (And.intro hR hBel)
  clear hR hBel
  show Calls Tryz.prog 157 #[.agg #[.int .u32 a.toNat, .int .u32 b.toNat, .int .u32 c.toNat, .int .u32 d.toNat, .int .u32 e.toNat, .int .u32 f.toNat, .int .u32 g.toNat, .int .u32 o.toNat], .int .u32 k.toNat] w _
  have hX := u32_xor
  have hA := u32_and
  have hD := u32_add
  have hN := u32_not
  go_enter Tryz.func157, Tryz.ntmps157
  go_wp2
  go_quiet (fail)
  go_wp2
  go_quiet (fail)
  go_wp2
  go_quiet ((go_at_call 166; refine (turnQ2 _ _ ?hb _ _ _).mono ?_; (case hb => decide); rintro e1 w1 ⟨rfl, m, rfl⟩; exact ⟨rfl, m, rfl⟩))
  go_wp2_with (go_at_call 166; refine (turnI _ _ ?hb _).mono ?_; (case hb => decide); rintro e w' ⟨rfl, rfl⟩)
  rw [HS.out]
  refine bodyPost_ret (v := s8v S) (results_cell_row rfl _ _ (w.heap.size + 1) 169 (s8l S).toArray (0, 0) _ rfl ?hrow Tryz.underlying169 rfl (by rw [s8_size]; rfl)) rfl ⟨rfl, below8 ?hb1 (by omega) _ _ _ _ _ _ _ _⟩
  case hrow =>
    rw [← HS.out]
    exact row8 (Row.drewN HR.out.1 _) _ _ _ _ _ _ _ _
  case hb1 => exact below_drewN HR.out.2 _

theorem s8v_eq (s : S8) : s8v s = .agg #[.int .u32 s.a.toNat, .int .u32 s.b.toNat, .int .u32 s.c.toNat, .int .u32 s.d.toNat, .int .u32 s.e.toNat, .int .u32 s.f.toNat, .int .u32 s.g.toNat, .int .u32 s.h.toNat] := rfl
theorem cells8 {W : World} {g : Nat} {t : TypeId} {s : S8} (h : Row W g t (s8l s)) :
    W.cell? ⟨g, 0, none⟩ = some (.int .u32 s.a.toNat) ∧ W.cell? ⟨g, 1, none⟩ = some (.int .u32 s.b.toNat) ∧ W.cell? ⟨g, 2, none⟩ = some (.int .u32 s.c.toNat) ∧ W.cell? ⟨g, 3, none⟩ = some (.int .u32 s.d.toNat) ∧
    W.cell? ⟨g, 4, none⟩ = some (.int .u32 s.e.toNat) ∧ W.cell? ⟨g, 5, none⟩ = some (.int .u32 s.f.toNat) ∧ W.cell? ⟨g, 6, none⟩ = some (.int .u32 s.g.toNat) ∧ W.cell? ⟨g, 7, none⟩ = some (.int .u32 s.h.toNat) :=
  ⟨h.cell 0, h.cell 1, h.cell 2, h.cell 3, h.cell 4, h.cell 5, h.cell 6, h.cell 7⟩
/-- A row's item, by a number that is reckoned. -/
theorem run_index_agg {P : Program} (t e : TypeId) (n : Nat) (cs : Array Value) (k : Nat) (v : Value) (h : P.underlying t = some (.array n e)) (hk : k < n) (hv : cs[k]? = some v) (W : World)
    (hs : (sizeOf e).run P W = .ok 1 W) (ha : (isAgg e).run P W = .ok false W) :
    (Instr.index t (.agg cs) (.int .i64 (k : Int))).run P W = .ok v W := by
  have hc : (0 : Int) ≤ (k : Int) ∧ (k : Int) < (n : Int) := by omega
  simp only [Instr.index, asIntOf, Sem.run_bind, Sem.run_pure, Result.andThen_ok, run_underlying h, if_pos hc, hs, part, ha, Int.toNat_natCast, Nat.mul_one, Bool.false_eq_true, if_false, hv]
end Go.Proofs.YtheidjnapoipaaaGreatDoor
