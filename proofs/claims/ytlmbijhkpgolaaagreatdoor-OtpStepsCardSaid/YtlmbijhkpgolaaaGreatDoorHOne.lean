/- Sums by a key of one part, of two; keys that are one. -/
import Derived.Test.YtlmbijhkpgolaaaGreatDoorHShort
namespace Go.Proofs.YtlmbijhkpgolaaaGreatDoor
open Go.RowKit
set_option linter.unusedVariables false

theorem HmSum_one (key s : ByteArray) (hk : key.size ≤ 100000000) (hs : s.size ≤ 100000000) (W : World) (g : Nat) (hg : G W) (hr : Row W g 9 [.string s]) :
    Calls Tryz.prog 31 #[.string key, .slice (some ⟨g, 0, none⟩) 1 1] W fun e w' => e = .returned (.string ⟨(hmacL key.data.toList s.data.toList).toArray⟩) ∧ Below W.heap.size W w' :=
  HmSum_any key hk g 0 1 [s] W hg (fun j x hx => by rw [Nat.zero_add, hr.cell]; match j, hx with | 0, hx => cases hx; rfl) hr.lt (by simp) s.data.toList (by rw [join_flat]; simp) (by simp; omega)
theorem HmSum_two (key s t : ByteArray) (hk : key.size ≤ 100000000) (hs : s.size ≤ 100000000) (ht : t.size ≤ 100000000) (W : World) (g : Nat) (hg : G W) (hr : Row W g 9 [.string s, .string t]) :
    Calls Tryz.prog 31 #[.string key, .slice (some ⟨g, 0, none⟩) 2 2] W fun e w' => e = .returned (.string ⟨(hmacL key.data.toList (s.data.toList ++ t.data.toList)).toArray⟩) ∧ Below W.heap.size W w' :=
  HmSum_any key hk g 0 2 [s, t] W hg (fun j x hx => by rw [Nat.zero_add, hr.cell]; match j, hx with | 0, hx => cases hx; rfl | 1, hx => cases hx; rfl) hr.lt (by simp) (s.data.toList ++ t.data.toList) (by rw [join_flat]; simp) (by rw [List.length_append]; simp; omega)
/-- A key, and it with noughts behind, to a block. -/
theorem hmac_pad (k t : List UInt8) (n : Nat) (h : n = 0 ∨ k.length + n ≤ 64) : hmacL (k ++ List.replicate n 0) t = hmacL k t := by
  rcases h with rfl | h
  · rw [List.replicate_zero, List.append_nil]
  · have e (m : UInt8) : blkL (keyL (k ++ List.replicate n 0)) m = blkL (keyL k) m := by
      unfold keyL
      rw [if_neg (by simp; omega), if_neg (by omega)]
      unfold blkL
      rw [List.append_assoc, List.replicate_append_replicate, List.length_append, List.length_replicate]
      congr 3
      omega
    unfold hmacL
    rw [e, e]
/-- One that is longer is its sum. -/
theorem hmac_long (k t : List UInt8) (h : 64 < k.length) : hmacL (shaL k) t = hmacL k t := by
  have e : keyL (shaL k) = keyL k := by
    unfold keyL
    rw [if_neg (by rw [shaL_length]; omega), if_pos h]
  unfold hmacL
  rw [e]
theorem repeat_one (b : UInt8) (c : Nat) : Lib.repeatL [b] c = List.replicate c b := by
  have := Lib.repeatL_replicate b 1 c
  rwa [Nat.mul_one] at this
end Go.Proofs.YtlmbijhkpgolaaaGreatDoor
