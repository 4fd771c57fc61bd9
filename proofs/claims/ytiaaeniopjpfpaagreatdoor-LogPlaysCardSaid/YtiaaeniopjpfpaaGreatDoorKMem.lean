/- A disk in memory. -/
import Derived.Test.YtiaaeniopjpfpaaGreatDoorProg
import Derived.Test.YtiaaeniopjpfpaaGreatDoorMem
import Derived.Test.YtiaaeniopjpfpaaGreatDoorKPlain
import Derived.Maps.RangeWalk
import Derived.Maps.OwnOps
import Derived.Maps.Views
import Derived.Deep.MidRow
import Derived.Deep.AppendLies
import Derived.Lib.Hide
namespace Go.Proofs.YtiaaeniopjpfpaaGreatDoor
open Go.RowKit Go.Maps
set_option linter.unusedVariables false

/-- The cells of a write. -/
def wcells (x : Nat × List UInt8) : List Value := .int .i64 (x.1 : Nat) :: x.2.map bv
def wcs (l : List (Nat × List UInt8)) : List Value := l.flatMap wcells
theorem wcells_length {x : Nat × List UInt8} (h : x.2.length = 128) : (wcells x).length = 129 := by simp [wcells, h]
theorem wcs_nil : wcs [] = [] := rfl
theorem wcs_snoc (l : List (Nat × List UInt8)) (x : Nat × List UInt8) : wcs (l ++ [x]) = wcs l ++ wcells x := by simp [wcs]
theorem wcs_length (l : List (Nat × List UInt8)) (h : ∀ x ∈ l, x.2.length = 128) : (wcs l).length = l.length * 129 := by
  induction l with
  | nil => rfl
  | cons x l ih =>
    have e : wcs (x :: l) = wcells x ++ wcs l := by simp [wcs]
    rw [e, List.length_append, wcells_length (h x (by simp)), ih (fun y hy => h y (by simp [hy])), List.length_cons]
    omega
theorem wcs_get (l : List (Nat × List UInt8)) (h : ∀ x ∈ l, x.2.length = 128) (i j : Nat) (x : Nat × List UInt8) (hx : l[i]? = some x) (hj : j < 129) : (wcs l)[i * 129 + j]? = (wcells x)[j]? := by
  induction l generalizing i with
  | nil => simp at hx
  | cons y l ih =>
    have e : wcs (y :: l) = wcells y ++ wcs l := by simp [wcs]
    have hy := wcells_length (h y (by simp))
    rw [e]
    cases i with
    | zero =>
      simp only [List.getElem?_cons_zero, Option.some.injEq] at hx
      subst hx
      rw [List.getElem?_append_left (by omega)]
      simp
    | succ i =>
      rw [List.getElem?_append_right (by omega), hy]
      have e2 : (i + 1) * 129 + j - 129 = i * 129 + j := by omega
      rw [e2]
      exact ih (fun z hz => h z (by simp [hz])) i (by simpa using hx)
theorem wcs_one (l : List (Nat × List UInt8)) : ∀ v ∈ wcs l, v.oneCell' = true := by
  intro v hv
  simp only [wcs, List.mem_flatMap, wcells, List.mem_cons, List.mem_map] at hv
  obtain ⟨x, _, rfl | ⟨c, _, rfl⟩⟩ := hv <;> rfl
theorem bvs_one (l : List UInt8) : ∀ v ∈ l.map bv, v.oneCell' = true := by
  intro v hv
  simp only [List.mem_map] at hv
  obtain ⟨c, _, rfl⟩ := hv
  rfl

/-- What the map of the newest reads as. -/
def Newest (l : List (Nat × List UInt8)) (Dm : DataW Unit) : Prop := ∀ k : Int,
  Maps.has Dm (.int .i64 k) = (lastAt l k).isSome ∧ ∀ i : Nat, lastAt l k = some i → ∀ z, Dm.atKey (.int .i64 k) z = .lit (.int .i64 (i : Nat))
theorem newest_nil : Newest [] (.map []) := fun k => ⟨rfl, fun i h => by simp [lastAt_nil] at h⟩
theorem key_int (k : Int) : WideAt.IsKeyLit (.int .i64 k) := trivial
theorem newest_snoc {l : List (Nat × List UInt8)} {Dm : DataW Unit} (h : Newest l Dm) (hm : IsMap Dm) (x : Nat × List UInt8) : Newest (l ++ [x]) (Dm.put (.int .i64 (x.1 : Nat)) (.lit (.int .i64 (l.length : Nat)))) := by
  intro k
  rw [lastAt_snoc]
  by_cases e : (x.1 : Int) = k
  · subst e
    rw [if_pos rfl]
    refine ⟨by rw [has_put_same hm (key_int _)]; rfl, fun i hi z => ?_⟩
    injection hi with hi
    subst hi
    exact atKey_put_same hm (key_int _) _ _
  · rw [if_neg e]
    have hne : (Lit.int IntKind.i64 k) ≠ .int .i64 (x.1 : Nat) := by intro h; injection h with _ h; exact e h.symm
    refine ⟨by rw [has_put_other hne]; exact (h k).1, fun i hi z => ?_⟩
    rw [atKey_put_other hne]
    exact (h k).2 i hi z

/-- Of what lies in L nothing has turned. -/
structure Keeps (L : Nat → Prop) (w w' : World) : Prop where
  os : w'.os = w.os
  tape : w'.tape = w.tape
  output : w'.output = w.output
  size : w.heap.size ≤ w'.heap.size
  block : ∀ k, k < w.heap.size → L k → w'.heap[k]? = w.heap[k]?
section
variable {L L' : Nat → Prop} {a b c : World}
theorem Keeps.refl (L : Nat → Prop) (w : World) : Keeps L w w := ⟨rfl, rfl, rfl, Nat.le_refl _, fun _ _ _ => rfl⟩
theorem Keeps.trans (h : Keeps L a b) (k : Keeps L b c) : Keeps L a c :=
  ⟨k.os.trans h.os, k.tape.trans h.tape, k.output.trans h.output, Nat.le_trans h.size k.size, fun i hi hl => (k.block i (Nat.lt_of_lt_of_le hi h.size) hl).trans (h.block i hi hl)⟩
theorem Keeps.mono (h : Keeps L a b) (hL : ∀ k, L' k → L k) : Keeps L' a b := ⟨h.os, h.tape, h.output, h.size, fun k hk hl => h.block k hk (hL k hl)⟩
theorem Keeps.of_below {B : Nat} (h : Below B a b) (hL : ∀ k, k < a.heap.size → L k → k < B) : Keeps L a b := ⟨h.os, h.tape, h.output, h.size, fun k hk hl => h.block k (hL k hk hl)⟩
theorem Keeps.below {B : Nat} (h : Keeps L a b) (hB : B ≤ a.heap.size) (hL : ∀ k, k < B → L k) : Below B a b := ⟨h.os, h.tape, h.output, h.size, fun k hk => h.block k (by omega) (hL k hk)⟩
theorem Keeps.alloc (h : Keeps L a b) (o : Obj) : Keeps L a (b.alloc o) :=
  h.trans (Keeps.of_below ((Below.refl _ _).alloc (Nat.le_refl b.heap.size) o) (fun k hk _ => hk))
theorem Keeps.drew (h : Keeps L a b) (n : Nat) : Keeps L a (b.drewN n) := ⟨h.os, h.tape, h.output, h.size, h.block⟩
theorem Keeps.drew1 (h : Keeps L a b) : Keeps L a b.drew := ⟨h.os, h.tape, h.output, h.size, h.block⟩
theorem Keeps.grown (h : Keeps L a b) {row : Option Nat} (hg : b.grownBy c row) (hr : ∀ g, row = some g → ¬ L g ∨ a.heap.size ≤ g) : Keeps L a c :=
  ⟨hg.os.trans h.os, hg.tape.trans h.tape, hg.output.trans h.output, Nat.le_trans h.size hg.size, fun k hk hl => (hg.block k (Nat.lt_of_lt_of_le hk h.size) (fun e => by
    rcases hr k e.symm with h1 | h1
    · exact h1 hl
    · omega)).trans (h.block k hk hl)⟩
theorem Keeps.setCell (h : Keeps L a b) {p : Addr} (hp : ¬ L p.block ∨ a.heap.size ≤ p.block) (v : Value) : Keeps L a (b.setCell p v) :=
  ⟨h.os, h.tape, h.output, by simpa [World.setCell] using h.size, fun k hk hl => (Below.heap_setCell b p v k (fun e => by
    subst e
    rcases hp with h1 | h1
    · exact h1 hl
    · omega)).trans (h.block k hk hl)⟩
theorem Keeps.setRow (h : Keeps L a b) {g : Nat} (hp : ¬ L g ∨ a.heap.size ≤ g) (cs : Array Value) : Keeps L a (b.setRow g cs) :=
  ⟨h.os, h.tape, h.output, by simpa [World.setRow] using h.size, fun k hk hl => (setRow_other b g k cs (fun e => by
    subst e
    rcases hp with h1 | h1
    · exact h1 hl
    · omega)).trans (h.block k hk hl)⟩
end

/-- A disk at a block, with its three others. -/
structure DiskAt (L : Nat → Prop) (w : World) (p gl gm : Nat) (hv : Value) (Dm : DataW Unit) (D : DS) : Prop where
  row : Row w p 81 [.slice (some ⟨gl, 0, none⟩) D.lasts.length D.lasts.length, hv, .map (some gm), .int .i64 D.fuse, .int .i64 (D.steps : Nat), .bool D.down]
  las : Row w gl 90 (D.lasts.flatten.map bv)
  han : w.ownsRow 0 142 129 hv D.hangs.length (wcs D.hangs)
  mp : w.ownsMap Tryz.prog 3 (plainElem Tryz.prog 3) gm D.hangs.length Dm
  new : Newest D.hangs Dm
  good : D.ok
  fp : ¬ L p
  fl : ¬ L gl
  fm : ¬ L gm
  fh : ∀ g, hv.ownBlock = some g → ¬ L g
def DiskIs (L : Nat → Prop) (w : World) (p : Nat) (D : DS) : Prop := ∃ gl gm hv Dm, DiskAt L w p gl gm hv Dm D

section
variable {L L' : Nat → Prop} {w w' : World} {p gl gm : Nat} {hv : Value} {Dm : DataW Unit} {D : DS}
theorem DiskAt.ne_lp (h : DiskAt L w p gl gm hv Dm D) : gl ≠ p := by
  rintro rfl
  have h1 := h.row
  have h2 := h.las
  unfold Row at h1 h2
  rw [h1] at h2
  injection h2 with h2
  injection h2 with _ h3
  revert h3
  decide
theorem DiskAt.ne_mp (h : DiskAt L w p gl gm hv Dm D) : gm ≠ p := by
  rintro rfl
  have h1 := h.row
  obtain ⟨es, cl, h2, _⟩ := h.mp
  unfold Row at h1
  rw [h1] at h2
  injection h2 with h2
  cases h2
theorem DiskAt.ne_ml (h : DiskAt L w p gl gm hv Dm D) : gm ≠ gl := by
  rintro rfl
  have h1 := h.las
  obtain ⟨es, cl, h2, _⟩ := h.mp
  unfold Row at h1
  rw [h1] at h2
  injection h2 with h2
  cases h2
theorem own_ne {B n : Nat} {e t : TypeId} {size g : Nat} {v : Value} {xs l : List Value} (h : w.ownsRow B e size v n xs) (hr : Row w g t l) (hne : e ≠ t) : v.ownBlock ≠ some g := by
  rcases h.2 with ⟨rfl, _⟩ | ⟨g', cap, cur, rfl, _, hh, _⟩
  · simp [Value.ownBlock]
  · intro he
    have e1 : g' = g := by simpa [Value.ownBlock] using he
    subst e1
    unfold Row at hr
    rw [hh] at hr
    injection hr with hr
    injection hr with _ h3
    exact hne h3
theorem DiskAt.ne_hp (h : DiskAt L w p gl gm hv Dm D) : hv.ownBlock ≠ some p := own_ne h.han h.row (by decide)
theorem DiskAt.ne_hl (h : DiskAt L w p gl gm hv Dm D) : hv.ownBlock ≠ some gl := own_ne h.han h.las (by decide)
theorem DiskAt.ne_hm (h : DiskAt L w p gl gm hv Dm D) : hv.ownBlock ≠ some gm := by
  obtain ⟨es, cl, h2, _⟩ := h.mp
  rcases h.han.2 with ⟨rfl, _⟩ | ⟨g', cap, cur, rfl, _, hh, _⟩
  · simp [Value.ownBlock]
  · intro he
    have e1 : g' = gm := by simpa [Value.ownBlock] using he
    subst e1
    rw [hh] at h2
    cases h2
theorem own_blk_lt {B n : Nat} {e : TypeId} {size g : Nat} {v : Value} {xs : List Value} (h : w.ownsRow B e size v n xs) (hg : v.ownBlock = some g) : g < w.heap.size := by
  rcases h.2 with ⟨rfl, _⟩ | ⟨g', cap, cur, rfl, _, hh, _⟩
  · simp [Value.ownBlock] at hg
  · have e1 : g' = g := by simpa [Value.ownBlock] using hg
    subst e1
    exact (Array.getElem?_eq_some_iff.1 hh).1
theorem own_kept {B n : Nat} {e : TypeId} {size : Nat} {v : Value} {xs : List Value} (h : w.ownsRow B e size v n xs) (hk : ∀ g, v.ownBlock = some g → w'.heap[g]? = w.heap[g]?) : w'.ownsRow B e size v n xs := by
  refine ⟨h.1, ?_⟩
  rcases h.2 with h0 | ⟨g', cap, cur, rfl, hB, hh, r⟩
  · exact .inl h0
  · exact .inr ⟨g', cap, cur, rfl, hB, (hk g' rfl).trans hh, r⟩
theorem map_kept {b n : Nat} {P : Program} {k : TypeId} {R : Value → Option (DataW Unit × List MemPlace)} {Dm : DataW Unit} (h : w.ownsMap P k R b n Dm) (hk : w'.heap[b]? = w.heap[b]?) : w'.ownsMap P k R b n Dm := by
  obtain ⟨es, cl, hb, r⟩ := h
  exact ⟨es, cl, hk.trans hb, r⟩
/-- A disk stays what it is where its blocks do. -/
theorem DiskAt.kept (h : DiskAt L w p gl gm hv Dm D) (hk : ∀ g, g = p ∨ g = gl ∨ g = gm ∨ hv.ownBlock = some g → w'.heap[g]? = w.heap[g]?)
    (hL : ∀ g, g = p ∨ g = gl ∨ g = gm ∨ hv.ownBlock = some g → ¬ L' g) : DiskAt L' w' p gl gm hv Dm D :=
  ⟨(hk p (.inl rfl)).trans h.row, (hk gl (.inr (.inl rfl))).trans h.las, own_kept h.han (fun g hg => hk g (.inr (.inr (.inr hg)))), map_kept h.mp (hk gm (.inr (.inr (.inl rfl)))), h.new, h.good,
    hL p (.inl rfl), hL gl (.inr (.inl rfl)), hL gm (.inr (.inr (.inl rfl))), fun g hg => hL g (.inr (.inr (.inr hg)))⟩
theorem DiskAt.lt (h : DiskAt L w p gl gm hv Dm D) : ∀ g, g = p ∨ g = gl ∨ g = gm ∨ hv.ownBlock = some g → g < w.heap.size := by
  rintro g (rfl | rfl | rfl | hg)
  · exact h.row.lt
  · exact h.las.lt
  · exact h.mp.lt
  · exact own_blk_lt h.han hg
theorem DiskAt.out (h : DiskAt L w p gl gm hv Dm D) : ∀ g, g = p ∨ g = gl ∨ g = gm ∨ hv.ownBlock = some g → ¬ L g := by
  rintro g (rfl | rfl | rfl | hg)
  · exact h.fp
  · exact h.fl
  · exact h.fm
  · exact h.fh g hg
theorem DiskAt.below (h : DiskAt L w p gl gm hv Dm D) (hb : Below w.heap.size w w') : DiskAt L w' p gl gm hv Dm D :=
  h.kept (fun g hg => hb.block g (h.lt g hg)) h.out
theorem DiskIs.below (h : DiskIs L w p D) (hb : Below w.heap.size w w') : DiskIs L w' p D := by
  obtain ⟨gl, gm, hv, Dm, h⟩ := h
  exact ⟨gl, gm, hv, Dm, h.below hb⟩
/-- What is new is none of its own. -/
theorem DiskIs.more (h : DiskIs L w p D) (hL : ∀ g, L' g → L g ∨ w.heap.size ≤ g) : DiskIs L' w p D := by
  obtain ⟨gl, gm, hv, Dm, h⟩ := h
  refine ⟨gl, gm, hv, Dm, h.kept (fun _ _ => rfl) (fun g hg hl => ?_)⟩
  rcases hL g hl with h1 | h1
  · exact h.out g hg h1
  · have := h.lt g hg; omega
theorem DiskIs.keeps {M : Nat → Prop} (h : DiskIs L w p D) (hk : Keeps M w w') (hM : ∀ g, g < w.heap.size → ¬ L g → M g) : DiskIs L w' p D := by
  obtain ⟨gl, gm, hv, Dm, h⟩ := h
  exact ⟨gl, gm, hv, Dm, h.kept (fun g hg => hk.block g (h.lt g hg) (hM g (h.lt g hg) (h.out g hg))) h.out⟩
end
end Go.Proofs.YtiaaeniopjpfpaaGreatDoor
