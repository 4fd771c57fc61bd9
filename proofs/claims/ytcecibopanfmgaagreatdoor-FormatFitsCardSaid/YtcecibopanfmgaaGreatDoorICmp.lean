/- Ids compared. -/
import Derived.Lib.BytesEntry
import Derived.Test.YtcecibopanfmgaaGreatDoorIText
namespace Go.Proofs.YtcecibopanfmgaaGreatDoor
open Go.RowKit
set_option linter.unusedVariables false

theorem run_row_bytes {P : Program} {W : World} {g : Nat} {t : TypeId} {l : List UInt8} (h : Row W g t (l.map bv)) :
    (Extern.Bytes.loadBytes ⟨g, 0, none⟩ l.length .empty).run P W = .ok ⟨l.toArray⟩ W := by
  have h1 := Lib.run_loadBytesX (P := P) W (l.map fun x => (x.toNat : Int)) ⟨g, 0, none⟩ .empty (fun j x hx => by
    have e : (⟨g, 0, none⟩ : Addr).add j = ⟨g, j, none⟩ := by unfold Addr.add; split <;> simp_all
    rw [e, h.cell, List.getElem?_map]
    rw [List.getElem?_map] at hx
    cases hl : l[j]? with
    | none => rw [hl] at hx; cases hx
    | some y => rw [hl] at hx; cases hx; rfl)
  rw [List.length_map] at h1
  rw [h1]
  congr 1
  apply ByteArray.ext
  show #[] ++ (Lib.bytesOf _).toArray = l.toArray
  rw [Array.empty_append]
  congr 1
  unfold Lib.bytesOf
  rw [List.map_map]
  conv => rhs; rw [← List.map_id l]
  apply List.map_congr_left
  intro c _
  simp
theorem cmpB_cons (x y : UInt8) (a b : List UInt8) : Lib.compareBytes (x :: a) (y :: b) = if x < y then -1 else if y < x then 1 else Lib.compareBytes a b := by rw [Lib.compareBytes]
theorem compareBytes_lt : ∀ (a b : List UInt8), Lib.compareBytes a b < 0 ↔ a < b
  | [], [] => by simp [Lib.compareBytes]
  | [], _ :: _ => by simp [Lib.compareBytes]
  | _ :: _, [] => by simp [Lib.compareBytes]
  | x :: a, y :: b => by
    have ih := compareBytes_lt a b
    rw [List.cons_lt_cons_iff, ← ih, cmpB_cons]
    by_cases h : x < y
    · simp [h]
    · by_cases h2 : y < x
      · rw [if_neg h, if_pos h2]
        have hn : x ≠ y := fun e => by subst e; exact UInt8.lt_irrefl _ h2
        simp [h, hn]
      · have e : x = y := UInt8.le_antisymm (UInt8.not_lt.1 h2) (UInt8.not_lt.1 h)
        rw [if_neg h, if_neg h2]
        subst e
        simp
theorem compareBytes_eq : ∀ (a b : List UInt8), Lib.compareBytes a b = 0 ↔ a = b
  | [], [] => by simp [Lib.compareBytes]
  | [], _ :: _ => by simp [Lib.compareBytes]
  | _ :: _, [] => by simp [Lib.compareBytes]
  | x :: a, y :: b => by
    have ih := compareBytes_eq a b
    rw [List.cons.injEq, ← ih, cmpB_cons]
    by_cases h : x < y
    · have hn : x ≠ y := fun e => by subst e; exact UInt8.lt_irrefl _ h
      simp [h, hn]
    · by_cases h2 : y < x
      · rw [if_neg h, if_pos h2]
        have hn : x ≠ y := fun e => by subst e; exact UInt8.lt_irrefl _ h2
        simp [hn]
      · have e : x = y := UInt8.le_antisymm (UInt8.not_lt.1 h2) (UInt8.not_lt.1 h)
        rw [if_neg h, if_neg h2]
        subst e
        simp
theorem compareBytes_neg : ∀ (a b : List UInt8), Lib.compareBytes a b = - Lib.compareBytes b a
  | [], [] => by simp [Lib.compareBytes]
  | [], _ :: _ => by simp [Lib.compareBytes]
  | _ :: _, [] => by simp [Lib.compareBytes]
  | x :: a, y :: b => by
    have ih := compareBytes_neg a b
    rw [cmpB_cons, cmpB_cons]
    by_cases h : x < y
    · have h2 : ¬ y < x := fun h2 => UInt8.lt_irrefl _ (UInt8.lt_trans h h2)
      rw [if_pos h, if_neg h2, if_pos h]
    · by_cases h2 : y < x
      · rw [if_neg h, if_pos h2, if_pos h2]
        rfl
      · rw [if_neg h, if_neg h2, if_neg h2, if_neg h, ih]
theorem compareBytes_bound : ∀ (a b : List UInt8), -1 ≤ Lib.compareBytes a b ∧ Lib.compareBytes a b ≤ 1
  | [], [] => by simp [Lib.compareBytes]
  | [], _ :: _ => by simp [Lib.compareBytes]
  | _ :: _, [] => by simp [Lib.compareBytes]
  | x :: a, y :: b => by
    have ih := compareBytes_bound a b
    rw [cmpB_cons]
    split
    · omega
    · split
      · omega
      · exact ih

end Go.Proofs.YtcecibopanfmgaaGreatDoor
