/- Ids compared. -/
import Derived.Lib.BytesEntry
import Derived.Test.YtdhplohppcndhaaDoorIText
namespace Go.Proofs.YtdhplohppcndhaaDoor
open Go.RowKit
set_option linter.unusedVariables false

theorem run_row_bytes {P : Program} {W : World} {g : Nat} {t : TypeId} {l : List UInt8} (h : Row W g t (l.map bv)) :
    (Extern.Bytes.loadBytes ⟨g, 0, none⟩ l.length .empty).run P W = .ok ⟨l.toArray⟩ W := by
  have h1 := Lib.run_loadBytesX (P := P) W (l.map fun x => (x.toNat : Int)) ⟨g, 0, none⟩ .empty (fun j x hx => by
    have e : (⟨g, 0, none⟩ : Addr).add j = ⟨g, j, none⟩ := by unfold Addr.add; split <;> simp_all
    rw [e, h.cell, List.getElem?_map]
    rw [List.getElem?_map] at hx
    cases hl : l[j]? with
    | none => rw [hl] at hx; cases hx
    | some y => rw [hl] at hx; cases hx; rfl)
  rw [List.length_map] at h1
  rw [h1]
  congr 1
  apply ByteArray.ext
  show #[] ++ (Lib.bytesOf _).toArray = l.toArray
  rw [Array.empty_append]
  congr 1
  unfold Lib.bytesOf
  rw [List.map_map]
  conv => rhs; rw [← List.map_id l]
  apply List.map_congr_left
  intro c _
  simp
theorem run_compare {W : World} {g g' : Nat} {t t' : TypeId} {l m : List UInt8} (h : Row W g t (l.map bv)) (h' : Row W g' t' (m.map bv)) :
    (callFunc 83 #[.slice (some ⟨g, 0, none⟩) l.length l.length, .slice (some ⟨g', 0, none⟩) m.length m.length]).run Tryd.prog W = .ok (.value (.int .i64 (Lib.compareBytes l m))) W := by
  have e := run_callFunc_extern (P := Tryd.prog) (f := 83) (fn := Tryd.f83) (e := Extern.BytealgCompare.compare) (by kernel_rfl) (by kernel_rfl) (by kernel_rfl) (by kernel_rfl) (by kernel_rfl) #[.slice (some ⟨g, 0, none⟩) l.length l.length, .slice (some ⟨g', 0, none⟩) m.length m.length] W
  have hr : (Extern.BytealgCompare.compare #[.slice (some ⟨g, 0, none⟩) l.length l.length, .slice (some ⟨g', 0, none⟩) m.length m.length]).run Tryd.prog W = .ok (.int .i64 (Lib.compareBytes l m)) W := by
    change Sem.run Tryd.prog (do pure (goInt (Extern.BytealgCompare.cmp (← Extern.Bytes.bytesOf (.slice (some ⟨g, 0, none⟩) l.length l.length)) (← Extern.Bytes.bytesOf (.slice (some ⟨g', 0, none⟩) m.length m.length))))) W = _
    simp only [Extern.Bytes.bytesOf, Sem.run_bind, Sem.run_pure, Result.andThen, run_row_bytes h, run_row_bytes h']
    rw [Lib.cmp_eq]
    rfl
  rw [hr] at e
  rw [e]
  rfl

theorem cmpB_cons (x y : UInt8) (a b : List UInt8) : Lib.compareBytes (x :: a) (y :: b) = if x < y then -1 else if y < x then 1 else Lib.compareBytes a b := by rw [Lib.compareBytes]
theorem compareBytes_lt : ∀ (a b : List UInt8), Lib.compareBytes a b < 0 ↔ a < b
  | [], [] => by simp [Lib.compareBytes]
  | [], _ :: _ => by simp [Lib.compareBytes]
  | _ :: _, [] => by simp [Lib.compareBytes]
  | x :: a, y :: b => by
    have ih := compareBytes_lt a b
    rw [List.cons_lt_cons_iff, ← ih, cmpB_cons]
    by_cases h : x < y
    · simp [h]
    · by_cases h2 : y < x
      · rw [if_neg h, if_pos h2]
        have hn : x ≠ y := fun e => by subst e; exact UInt8.lt_irrefl _ h2
        simp [h, hn]
      · have e : x = y := UInt8.le_antisymm (UInt8.not_lt.1 h2) (UInt8.not_lt.1 h)
        rw [if_neg h, if_neg h2]
        subst e
        simp
theorem compareBytes_eq : ∀ (a b : List UInt8), Lib.compareBytes a b = 0 ↔ a = b
  | [], [] => by simp [Lib.compareBytes]
  | [], _ :: _ => by simp [Lib.compareBytes]
  | _ :: _, [] => by simp [Lib.compareBytes]
  | x :: a, y :: b => by
    have ih := compareBytes_eq a b
    rw [List.cons.injEq, ← ih, cmpB_cons]
    by_cases h : x < y
    · have hn : x ≠ y := fun e => by subst e; exact UInt8.lt_irrefl _ h
      simp [h, hn]
    · by_cases h2 : y < x
      · rw [if_neg h, if_pos h2]
        have hn : x ≠ y := fun e => by subst e; exact UInt8.lt_irrefl _ h2
        simp [hn]
      · have e : x = y := UInt8.le_antisymm (UInt8.not_lt.1 h2) (UInt8.not_lt.1 h)
        rw [if_neg h, if_neg h2]
        subst e
        simp
theorem compareBytes_neg : ∀ (a b : List UInt8), Lib.compareBytes a b = - Lib.compareBytes b a
  | [], [] => by simp [Lib.compareBytes]
  | [], _ :: _ => by simp [Lib.compareBytes]
  | _ :: _, [] => by simp [Lib.compareBytes]
  | x :: a, y :: b => by
    have ih := compareBytes_neg a b
    rw [cmpB_cons, cmpB_cons]
    by_cases h : x < y
    · have h2 : ¬ y < x := fun h2 => UInt8.lt_irrefl _ (UInt8.lt_trans h h2)
      rw [if_pos h, if_neg h2, if_pos h]
    · by_cases h2 : y < x
      · rw [if_neg h, if_pos h2, if_pos h2]
        rfl
      · rw [if_neg h, if_neg h2, if_neg h2, if_neg h, ih]
theorem compareBytes_bound : ∀ (a b : List UInt8), -1 ≤ Lib.compareBytes a b ∧ Lib.compareBytes a b ≤ 1
  | [], [] => by simp [Lib.compareBytes]
  | [], _ :: _ => by simp [Lib.compareBytes]
  | _ :: _, [] => by simp [Lib.compareBytes]
  | x :: a, y :: b => by
    have ih := compareBytes_bound a b
    rw [cmpB_cons]
    split
    · omega
    · split
      · omega
      · exact ih

set_option maxRecDepth 20000 in
theorem Compare_any (l m : List UInt8) (hl : l.length = 16) (hm : m.length = 16) (g g' : Nat) (t t' : TypeId) (w : World) (h : Row w g t (l.map bv)) (h' : Row w g' t' (m.map bv)) :
    Calls Tryd.prog 64 #[.slice (some ⟨g, 0, none⟩) 16 16, .slice (some ⟨g', 0, none⟩) 16 16] w fun e w' => e = .returned (.int .i64 (Lib.compareBytes l m)) ∧ w = w' := by
  have hx := run_compare h h'
  rw [hl, hm] at hx
  obtain ⟨c, hc⟩ : ∃ c, Lib.compareBytes l m = c := ⟨_, rfl⟩
  rw [hc] at hx ⊢
  clear hc h h' hl hm
  go_enter Tryd.func64, Tryd.ntmps64
  go_wp2
  go_ret
  exact ⟨rfl, rfl⟩

set_option maxRecDepth 20000 in
set_option maxHeartbeats 1000000 in
theorem Cmp_any (l m : List UInt8) (hl : l.length = 16) (hm : m.length = 16) (w : World) :
    Calls Tryd.prog 29 #[.agg (l.map bv).toArray, .agg (m.map bv).toArray] w fun e w' => e = .returned (.int .i64 (Lib.compareBytes l m)) ∧ Below w.heap.size w w' := by
  have hr0 := (Row.new w 54 (l.map bv)).alloc (.cells (m.map bv).toArray 54)
  have hr1 := Row.new (w.alloc (.cells (l.map bv).toArray 54)) 54 (m.map bv)
  rw [World.size_alloc] at hr1
  have hb0 : Below w.heap.size w ((w.alloc (.cells (l.map bv).toArray 54)).alloc (.cells (m.map bv).toArray 54)) := ((Below.refl _ _).alloc (Nat.le_refl _) _).alloc (by simp) _
  have HK : Hid (∀ W : World, Below ((w.alloc (.cells (l.map bv).toArray 54)).alloc (.cells (m.map bv).toArray 54)).heap.size ((w.alloc (.cells (l.map bv).toArray 54)).alloc (.cells (m.map bv).toArray 54)) W → Calls Tryd.prog 64 #[.slice (some ⟨w.heap.size, 0, none⟩) 16 16, .slice (some ⟨w.heap.size + 1, 0, none⟩) 16 16] W fun e w' => e = .returned (.int .i64 (Lib.compareBytes l m)) ∧ W = w') := Lib.hid fun W hW => Compare_any l m hl hm _ _ _ _ W (hr0.below hW hr0.lt) (hr1.below hW hr1.lt)
  have hsl0 := fun W => slice_arr_all (P := Tryd.prog) 54 5 16 Tryd.underlying54 Tryd.sizeOf5 w.heap.size 0 (by omega) W
  have hsl1 := fun W => slice_arr_all (P := Tryd.prog) 54 5 16 Tryd.underlying54 Tryd.sizeOf5 (w.heap.size + 1) 0 (by omega) W
  obtain ⟨C, hC⟩ : ∃ C, l.map bv = C := ⟨_, rfl⟩
  obtain ⟨D, hD⟩ : ∃ D, m.map bv = D := ⟨_, rfl⟩
  obtain ⟨c, hc⟩ : ∃ c, Lib.compareBytes l m = c := ⟨_, rfl⟩
  rw [hC, hD] at hr0 hr1 hb0 HK ⊢
  rw [hc] at HK ⊢
  have HB := Lib.hid hb0
  clear hr0 hr1 hb0 hC hD hc hl hm
  go_enter Tryd.func29, Tryd.ntmps29
  go_wp2_with fail
  generalize (w.alloc (.cells C.toArray 54)).alloc (.cells D.toArray 54) = w1 at HK HB ⊢
  refine region_quiet_lit (Below w1.heap.size w1) (by kernel_rfl) (by kernel_rfl) (below_drewN (Below.refl _ _) 1) ?_
  repeat (go_big_quiet_step ((first
    | (intro hC; with_reducible rfl)
    | (intro hC; go_at_call 64; refine (HK.out _ hC).mono ?_; rintro e w'' ⟨rfl, rfl⟩; exact ⟨rfl, hC⟩))))
  refine wpQuiet_nil ?_
  intro w2 hw2
  clear hsl0 hsl1
  go_wp2
  go_ret
  exact ⟨rfl, HB.out.trans (hw2.mono HB.out.size)⟩
end Go.Proofs.YtdhplohppcndhaaDoor
