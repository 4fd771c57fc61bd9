/- A table of ranges in memory; where a range stands in it. -/
import Derived.Test.YtldjnegoefdadaaGreatDoorRCheck
import Derived.Deep.MidRow
import Derived.Laws.AppendOwn
namespace Go.Proofs.YtldjnegoefdadaaGreatDoor
open Go.RowKit
set_option linter.unusedVariables false

def cellsL : List RG → List Value
  | [] => []
  | r :: l => r.cells ++ cellsL l
theorem cells_len (r : RG) : r.cells.length = 6 := rfl
theorem cellsL_len (l : List RG) : (cellsL l).length = l.length * 6 := by
  induction l with
  | nil => rfl
  | cons r l ih => rw [cellsL, List.length_append, cells_len, ih, List.length_cons]; omega
theorem cellsL_append (a b : List RG) : cellsL (a ++ b) = cellsL a ++ cellsL b := by
  induction a with
  | nil => rfl
  | cons r a ih => rw [List.cons_append, cellsL, ih, cellsL, List.append_assoc]
theorem cellsL_get : ∀ (l : List RG) (i : Nat) (h : i < l.length) (j : Nat), j < 6 → (cellsL l)[i * 6 + j]? = (l[i].cells)[j]?
  | r :: l, 0, _, j, hj => by
    rw [cellsL, List.getElem?_append_left (by rw [cells_len]; omega)]
    simp
  | r :: l, i + 1, h, j, hj => by
    have ih := cellsL_get l i (by simpa using h) j hj
    rw [cellsL, List.getElem?_append_right (by rw [cells_len]; omega), cells_len, show (i + 1) * 6 + j - 6 = i * 6 + j by omega, ih]
    simp
/-- A slice of ranges, in a block of its own. -/
def TBL (w : World) (s : Value) (l : List RG) : Prop := w.ownsRow 0 30 6 s l.length (cellsL l)
section
variable {w w' : World} {s : Value} {l : List RG}
theorem TBL.nil (w : World) : TBL w (.slice none 0 0) [] := World.ownsRow_nil w 0 _ 6
theorem TBL.form (h : TBL w s l) : (l = [] ∧ s = .slice none 0 0) ∨ ∃ g cap cur, s = .slice (some ⟨g, 0, none⟩) l.length cap ∧ w.heap[g]? = some (.cells cur 30 (0, 0)) ∧ l.length ≤ cap ∧ cap ≤ maxLen ∧ cur.size = cap * 6 ∧ cur.toList.take (l.length * 6) = cellsL l := by
  rcases h.2 with ⟨h1, h2⟩ | ⟨g, cap, cur, h1, _, h2, h3, h4, h5, h6⟩
  · exact Or.inl ⟨List.eq_nil_of_length_eq_zero h2, h1⟩
  · exact Or.inr ⟨g, cap, cur, h1, h2, h3, h4, h5, h6⟩
theorem TBL.slice (h : TBL w s l) : ∃ a cap, s = .slice a l.length cap := by
  rcases h.form with ⟨rfl, rfl⟩ | ⟨g, cap, _, rfl, _⟩
  · exact ⟨none, 0, rfl⟩
  · exact ⟨_, cap, rfl⟩
theorem TBL.below (h : TBL w s l) (hb : Below w.heap.size w w') : TBL w' s l := by
  refine ⟨h.1, ?_⟩
  rcases h.2 with h0 | ⟨g, cap, cur, h1, h2, h3, h4⟩
  · exact Or.inl h0
  · exact Or.inr ⟨g, cap, cur, h1, h2, (hb.block g (Array.getElem?_eq_some_iff.1 h3).1).trans h3, h4⟩
theorem TBL.cell (h : TBL w s l) (i : Nat) (hi : i < l.length) : ∃ g cap, s = .slice (some ⟨g, 0, none⟩) l.length cap ∧ g < w.heap.size ∧ w.rangeAt g (i * 6) l[i].cells := by
  rcases h.form with ⟨rfl, rfl⟩ | ⟨g, cap, cur, rfl, h2, h3, _, h5, h6⟩
  · cases hi
  · refine ⟨g, cap, rfl, (Array.getElem?_eq_some_iff.1 h2).1, fun j v hj => ?_⟩
    have hj6 : j < 6 := by
      have := (List.getElem?_eq_some_iff.1 hj).1
      rwa [cells_len] at this
    rw [← cellsL_get l i hi j hj6, ← h6, List.getElem?_take] at hj
    split at hj
    · rw [cell_of_row w g (i * 6 + j) cur _ (0, 0) h2]
      simpa using hj
    · cases hj
end

set_option maxHeartbeats 1000000 in
theorem place1_any (r : RG) (hr : r.light) (k : ByteArray) (hk : k.size ≤ 1000) (w : World) :
    Calls Tryz.prog 63 #[.agg #[.string r.lo, .string r.hi, .string r.acs, .string r.low, .string r.high, .int .i64 r.mode], .string k] w fun e w' => e = .returned (.int .i64 (cmpC r.lo.data.toList k.data.toList)) ∧ Below w.heap.size w w' := by
  obtain ⟨lo, hi, acs, low, high, mode⟩ := r
  obtain ⟨z0, z1, z2, z3, z4, m0, m1⟩ := hr
  dsimp only at z0 z1 z2 z3 z4 m0 m1 ⊢
  have HC := Lib.hid (fun W => RCmp_any lo k (by omega) (by omega) W)
  have HB0 := Lib.hid ((Below.refl w.heap.size w).alloc (Nat.le_refl _) (.cells [Value.string lo, .string hi, .string acs, .string low, .string high, .int .i64 mode].toArray 30))
  go_enter Tryz.func63, Tryz.ntmps63
  go_wp2_with fail
  refine (HC.out _).mono ?_
  rintro e w1 ⟨rfl, hb⟩
  have B1 := Lib.hid (HB0.out.trans (hb.mono HB0.out.size))
  go_wp2
  go_ret
  exact ⟨rfl, B1.out⟩

def apartB (a b : RG) : Bool := decide (cmpC a.hi.data.toList b.lo.data.toList < 0) || decide (cmpC b.hi.data.toList a.lo.data.toList < 0)
set_option maxHeartbeats 1000000 in
theorem apart_any (a b : RG) (ha : a.light) (hb : b.light) (w : World) :
    Calls Tryz.prog 41 #[.agg #[.string a.lo, .string a.hi, .string a.acs, .string a.low, .string a.high, .int .i64 a.mode], .agg #[.string b.lo, .string b.hi, .string b.acs, .string b.low, .string b.high, .int .i64 b.mode]] w fun e w' => e = .returned (.bool (apartB a b)) ∧ Below w.heap.size w w' := by
  have z0 := ha.1
  have z1 := ha.2.1
  have y0 := hb.1
  have y1 := hb.2.1
  have HC1 := Lib.hid (fun W => RCmp_any a.hi b.lo (by omega) (by omega) W)
  have HC2 := Lib.hid (fun W => RCmp_any b.hi a.lo (by omega) (by omega) W)
  unfold apartB
  obtain ⟨x, hx⟩ : ∃ c, cmpC a.hi.data.toList b.lo.data.toList = c := ⟨_, rfl⟩
  obtain ⟨y, hy⟩ : ∃ c, cmpC b.hi.data.toList a.lo.data.toList = c := ⟨_, rfl⟩
  rw [hx] at HC1 ⊢
  rw [hy] at HC2 ⊢
  obtain ⟨R, hR⟩ : ∃ R, (decide (x < 0) || decide (y < 0)) = R := ⟨_, rfl⟩
  rw [hR]
  have HR := Lib.hid hR
  clear hx hy z0 z1 y0 y1 ha hb hR
  have B0 := (Below.refl w.heap.size w).alloc (Nat.le_refl _) (.cells [Value.string a.lo, .string a.hi, .string a.acs, .string a.low, .string a.high, .int .i64 a.mode].toArray 30)
  have HB0 := Lib.hid (B0.alloc (by simp) (.cells [Value.string b.lo, .string b.hi, .string b.acs, .string b.low, .string b.high, .int .i64 b.mode].toArray 30))
  have H1 := Lib.hid (Row.new (w.alloc (.cells [Value.string a.lo, .string a.hi, .string a.acs, .string a.low, .string a.high, .int .i64 a.mode].toArray 30)) 30 [Value.string b.lo, .string b.hi, .string b.acs, .string b.low, .string b.high, .int .i64 b.mode])
  have H0 := Lib.hid ((Row.new w 30 [Value.string a.lo, .string a.hi, .string a.acs, .string a.low, .string a.high, .int .i64 a.mode]).alloc (.cells [Value.string b.lo, .string b.hi, .string b.acs, .string b.low, .string b.high, .int .i64 b.mode].toArray 30))
  rw [World.size_alloc] at H1
  clear B0
  go_enter Tryz.func41, Tryz.ntmps41
  go_wp2_with fail
  generalize (w.alloc (.cells [Value.string a.lo, .string a.hi, .string a.acs, .string a.low, .string a.high, .int .i64 a.mode].toArray 30)).alloc (.cells [Value.string b.lo, .string b.hi, .string b.acs, .string b.low, .string b.high, .int .i64 b.mode].toArray 30) = w0 at H0 H1 HB0 ⊢
  refine (HC1.out _).mono ?_
  rintro e w1 ⟨rfl, hb⟩
  have B1 := Lib.hid (HB0.out.trans (hb.mono HB0.out.size))
  have R0 := Lib.hid (H0.out.below hb H0.out.lt)
  have R1 := Lib.hid (H1.out.below hb H1.out.lt)
  clear hb
  have p0 := R0.out.cell 0
  have q1 := R1.out.cell 1
  simp only [List.getElem?_cons_zero, List.getElem?_cons_succ] at p0 q1
  by_cases hx0 : x < 0
  · have HRR : Hid (R = true) := Lib.hid (by rw [← HR.out, decide_eq_true hx0]; rfl)
    go_wp2
    go_ret
    exact ⟨ret_boolE HRR.out.symm, B1.out⟩
  · go_wp2_with fail
    refine (HC2.out _).mono ?_
    rintro e w2 ⟨rfl, hb⟩
    have B2 := Lib.hid (B1.out.trans (hb.mono B1.out.size))
    clear hb
    go_wp2
    go_ret
    exact ⟨ret_boolE HR.out, B2.out⟩
end Go.Proofs.YtldjnegoefdadaaGreatDoor
