/- A range that came in; the law's bound. -/
import Derived.ProofKit
import Derived.OpenShut
import Derived.ShutString
import Derived.Deep.DeepHandedRow
import Derived.Lib.SmallJoins
import Derived.Test.YtldjnegoefdadaaGreatDoorRCheck
namespace Go.Proofs.YtldjnegoefdadaaGreatDoor
open Go.ChangeShapes Go.WideShapes Go.ChangeAt Go.RowKit Go.Joins Go.Deep
set_option linter.unusedVariables false

set_option maxRecDepth 20000 in
/-- A range that came in. -/
theorem range_open {H : Type} {enc : TypeId × Value → H} {W : World} {rc : Reach} {b0 : Nat} {v : Value} {d : DataW H} {p : List MemPlace}
    (hv : Value.okWide Tryz.prog W rc b0 30 v) (h : DataW.Trod enc Tryz.prog W 0 (fun _ => true) true 30 v d p) :
    ∃ r : RG, v = .agg #[.string r.lo, .string r.hi, .string r.acs, .string r.low, .string r.high, .int .i64 r.mode] ∧ -9223372036854775808 ≤ r.mode ∧ r.mode ≤ 9223372036854775807 := by
  obtain ⟨cs, rfl, hsz⟩ := okWide_struct Tryz.underlying30 hv
  have hsz6 : cs.size = 6 := hsz.trans (by kernel_rfl)
  obtain ⟨l⟩ := cs
  match l, hsz6 with
  | [c0, c1, c2, c3, c4, c5], _ =>
    obtain ⟨fuel, hf⟩ := h
    obtain ⟨xs, n, _, _, _, hlen, hg⟩ := DataW.trod_struct Tryz.underlying30 hf
    have hS : Tryz.prog.cellsOf 9 = 1 := by kernel_rfl
    have hI : Tryz.prog.cellsOf 3 = 1 := by kernel_rfl
    match xs, hlen with
    | [y0, y1, y2, y3, y4, y5], _ =>
      have g0 : DataW.trod enc Tryz.prog W 0 (fun _ => true) true n 9 [c0] = some y0 := by simpa [Value.cells, hS] using hg 0 _ rfl
      have g1 : DataW.trod enc Tryz.prog W 0 (fun _ => true) true n 9 [c1] = some y1 := by simpa [Value.cells, hS] using hg 1 _ rfl
      have g2 : DataW.trod enc Tryz.prog W 0 (fun _ => true) true n 9 [c2] = some y2 := by simpa [Value.cells, hS] using hg 2 _ rfl
      have g3 : DataW.trod enc Tryz.prog W 0 (fun _ => true) true n 9 [c3] = some y3 := by simpa [Value.cells, hS] using hg 3 _ rfl
      have g4 : DataW.trod enc Tryz.prog W 0 (fun _ => true) true n 9 [c4] = some y4 := by simpa [Value.cells, hS] using hg 4 _ rfl
      have g5 : DataW.trod enc Tryz.prog W 0 (fun _ => true) true n 3 [c5] = some y5 := by simpa [Value.cells, hI] using hg 5 _ rfl
      obtain ⟨s0, e0, _⟩ := DataW.trod_string Tryz.underlying9 g0
      obtain ⟨s1, e1, _⟩ := DataW.trod_string Tryz.underlying9 g1
      obtain ⟨s2, e2, _⟩ := DataW.trod_string Tryz.underlying9 g2
      obtain ⟨s3, e3, _⟩ := DataW.trod_string Tryz.underlying9 g3
      obtain ⟨s4, e4, _⟩ := DataW.trod_string Tryz.underlying9 g4
      obtain ⟨k, e5, _, w5⟩ := DataW.trod_int Tryz.underlying3 g5
      simp only [List.cons.injEq, and_true] at e0 e1 e2 e3 e4 e5
      subst e0 e1 e2 e3 e4 e5
      have r5 : -9223372036854775808 ≤ k ∧ k ≤ 9223372036854775807 := by simpa [Lit.wf, IntKind.min, IntKind.max, IntKind.signed, IntKind.bits] using w5
      exact ⟨⟨s0, s1, s2, s3, s4, k⟩, rfl, r5.1, r5.2⟩

theorem max5r {P : Program} (ts : Array TypeId) (t : TypeId) (a b c d e : Nat) (W : World) : (Builtin.max_ ts t #[.int .i64 a, .int .i64 b, .int .i64 c, .int .i64 d, .int .i64 e]).run P W = .ok (.int .i64 ((max (max (max (max a b) c) d) e : Nat) : Int)) W := by
  have h : ∀ x y : Int, (if x < y then y else x) = max x y := by intro x y; split <;> omega
  simp [Builtin.max_, Builtin.max2, h]
  omega
theorem max2r {P : Program} (ts : Array TypeId) (t : TypeId) (a b : Nat) (W : World) : (Builtin.max_ ts t #[.int .i64 a, .int .i64 b]).run P W = .ok (.int .i64 ((max a b : Nat) : Int)) W := by
  simp [Builtin.max_, Builtin.max2]
  omega

def lightB (r : RG) : Bool := decide (r.lo.size ≤ 60 ∧ r.hi.size ≤ 60 ∧ r.acs.size ≤ 60 ∧ r.low.size ≤ 60 ∧ r.high.size ≤ 60)
set_option maxHeartbeats 400000 in
theorem Light_any (r : RG) (w : World) :
    Calls Tryz.prog 9 #[.agg #[.string r.lo, .string r.hi, .string r.acs, .string r.low, .string r.high, .int .i64 r.mode]] w fun e w' => e = .returned (.bool (lightB r)) ∧ Below w.heap.size w w' := by
  obtain ⟨lo, hi, acs, low, high, mode⟩ := r
  unfold lightB
  dsimp only
  have hmx := fun ts t W => max5r (P := Tryz.prog) ts t lo.size hi.size acs.size low.size high.size W
  rw [show decide (lo.size ≤ 60 ∧ hi.size ≤ 60 ∧ acs.size ≤ 60 ∧ low.size ≤ 60 ∧ high.size ≤ 60) = decide (max (max (max (max lo.size hi.size) acs.size) low.size) high.size ≤ 60) from decide_eq_decide.2 (by omega)]
  obtain ⟨m, hm⟩ : ∃ m, max (max (max (max lo.size hi.size) acs.size) low.size) high.size = m := ⟨_, rfl⟩
  rw [hm] at hmx ⊢
  clear hm
  have HB0 := Lib.hid ((Below.refl w.heap.size w).alloc (Nat.le_refl _) (.cells [Value.string lo, .string hi, .string acs, .string low, .string high, .int .i64 mode].toArray 30))
  go_enter Tryz.func9, Tryz.ntmps9
  go_wp2
  go_ret
  exact ⟨ret_boolE (decide_eq_decide.2 (by omega)), HB0.out⟩
end Go.Proofs.YtldjnegoefdadaaGreatDoor
