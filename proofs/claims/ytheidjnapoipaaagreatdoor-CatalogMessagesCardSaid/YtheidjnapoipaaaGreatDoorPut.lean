/- The contracts of the two functions that write a number as bytes. -/
import Derived.Test.YtheidjnapoipaaaGreatDoorRows
import Derived.WalkKit
import Derived.WalkSpells
import Derived.WalkLawsBesides
import Derived.Lib.Hide
import Derived.Deep.DeepCutAuto
import Derived.Test.YtheidjnapoipaaaGreatDoorPlain
import Derived.Test.YtheidjnapoipaaaGreatDoorMem
namespace Go.Proofs.YtheidjnapoipaaaGreatDoor
open Go.RowKit
set_option linter.unusedVariables false

theorem u8_info : (Tryz.prog.info? 5).map (fun i => (i.zero, i.size, i.bytes)) = some (some (.int .u8 0), 1, 1) := by kernel_rfl

/-- How many bytes Put lays. -/
def szOf (size : Int) : Nat := (min (max size 0) 8).toNat

theorem put_row_step (n sz k : Nat) (hk : k < sz) :
    (List.replicate (sz - k) (Value.int .u8 0) ++ (putL n k).map bv).set (sz - 1 - k) (.int .u8 ((n / 256 ^ k % 256 : Nat) : Int)) =
      List.replicate (sz - (k + 1)) (Value.int .u8 0) ++ (putL n (k + 1)).map bv := by
  have h1 : sz - k = (sz - (k + 1)) + 1 := by omega
  have h2 : sz - 1 - k = sz - (k + 1) := by omega
  rw [h1, h2, List.replicate_succ', List.append_assoc, List.set_append_right _ _ (by simp), putL_cons]
  simp [bv]

set_option maxRecDepth 4000 in
set_option maxHeartbeats 400000 in
theorem Put_any (n : Nat) (size : Int) (w : World) (hn : n < 18446744073709551616) :
    Calls Tryz.prog 154 #[.int .u64 n, .int .i64 size] w fun e w' => e = .returned (.string ⟨(putL n (szOf size)).toArray⟩) ∧ Below w.heap.size w w' := by
  obtain ⟨i0, hi0, hz0, hz1, hz2⟩ := info_parts u8_info
  have hsz : szOf size ≤ 8 := by unfold szOf; omega
  have hmk := fun W => make_row (P := Tryz.prog) 76 5 i0 (.int .u8 0) Tryz.underlying76 hi0 hz0 rfl hz1 (szOf size) (by rw [hz2]; omega) (by omega) W
  have hmm : min (max size 0) 8 = (szOf size : Int) := by unfold szOf; omega
  go_enter Tryz.func154, Tryz.ntmps154
  go_upto_region 1 with fail
  go_cut [1] (fun s1 wx => s1 = .int .i64 (szOf size : Int) ∧ w = wx)
  case first =>
    have HM : Hid (min (max size 0) 8 = (szOf size : Int)) := hmm
    clear hmm hmk hz0 hz1 hz2 hi0
    go_wp2
    all_goals (go_meet; refine ⟨?_, rfl⟩; congr 1; have := HM.out; omega)
  case rest =>
    obtain ⟨rfl, rfl⟩ := hcut
    clear hmm
    go_wp2
    have hrow := Row.new_rep w 5 (szOf size) (.int .u8 0)
    have hbel : Below w.heap.size w (w.alloc (.cells (Array.replicate (szOf size) (.int .u8 0)) 5)) := (Below.refl _ _).alloc (Nat.le_refl _) _
    generalize w.alloc (.cells (Array.replicate (szOf size) (.int .u8 0)) 5) = w1 at hrow hbel ⊢
    clear hmk hz0 hz1 hz2 hi0
    go_loopw [0, 13] (fun t i wr => ∃ k : Nat, k ≤ szOf size ∧ i = .int .i64 k ∧ t = .int .u64 ((n / 256 ^ k : Nat) : Int) ∧ Row wr w.heap.size 5 (List.replicate (szOf size - k) (.int .u8 0) ++ (putL n k).map bv) ∧ Below w.heap.size w wr)
      (fun _ i _ => szOf size - (intOf i).toNat)
    case atStart => exact ⟨0, Nat.zero_le _, rfl, by simp, by simpa [putL] using hrow, hbel⟩
    case round =>
      obtain ⟨k, hk, rfl, rfl, hr, hb⟩ := hrel
      by_cases hlt : k < szOf size
      · have hcell : ∃ v, wr.cell? ⟨w.heap.size, szOf size - 1 - k, none⟩ = some v := by
          rw [hr.cell]
          exact ⟨_, List.getElem?_eq_getElem (by simp [putL_length]; omega)⟩
        obtain ⟨v0, hc0⟩ := hcell
        have hf0 := hr.frozen (szOf size - 1 - k)
        have hrs := hr.set (szOf size - 1 - k) (.int .u8 ((n / 256 ^ k % 256 : Nat) : Int))
        rw [put_row_step n (szOf size) k hlt] at hrs
        have hbs := hb.setCell (p := ⟨w.heap.size, szOf size - 1 - k, none⟩) (Nat.le_refl _) (.int .u8 ((n / 256 ^ k % 256 : Nat) : Int))
        have hcast : ((n / 256 ^ k % 256 : Nat) : Int) = (n : Int) / 256 ^ k % 256 := by simp
        rw [hcast] at hrs hbs
        have hlast : ((n / 256 ^ (k + 1) : Nat) : Int) = (n : Int) / 256 ^ k / 256 := by
          rw [Nat.pow_succ, ← Nat.div_div_eq_div_mul]; simp
        have HL := Lib.hid hlast
        clear hcast hlast
        have hpos : (0 : Int) ≤ (n : Int) / 256 ^ k := by
          have : (0 : Int) ≤ ((n / 256 ^ k : Nat) : Int) := Int.natCast_nonneg _
          simpa using this
        go_wp2
        go_roundw
        case rel => exact ⟨k + 1, by omega, by go_num, by rw [HL.out], hrs, hbs⟩
        case measure => simp [intOf]; omega
      · have hk2 : k = szOf size := by omega
        subst hk2
        have hconv : ∀ dst, Tryz.prog.underlying dst = some .string → (convert 76 dst (.slice (some ⟨w.heap.size, 0, none⟩) (szOf size) (szOf size))).run Tryz.prog wr = .ok (.string ⟨(putL n (szOf size)).toArray⟩) wr := by
          intro dst hd
          refine conv_bytes wr 76 dst 5 Tryz.underlying76 Tryz.underlying5 hd w.heap.size 0 _ _ (putL n (szOf size)) (putL_length _ _) (fun i hi => ?_)
          rw [Nat.zero_add, hr.cell]
          simp
        have hcv := hconv 9 Tryz.underlying9
        clear hconv
        go_wp2
        go_ret
        exact ⟨rfl, hb⟩

/-- One byte in a block of its own, as a text. -/
theorem conv_one {P : Program} (W : World) (src dst e : TypeId) (hs : P.underlying src = some (.slice e)) (he : P.underlying e = some (.int .u8)) (hd : P.underlying dst = some .string)
    (x : Int) (hx0 : 0 ≤ x) (hx1 : x ≤ 255) (n : Nat) (hn : n = W.heap.size) :
    (convert src dst (.slice (some ⟨n, 0, none⟩) 1 1)).run P (W.alloc (.cells #[.int .u8 x] e)) = .ok (.string ⟨#[UInt8.ofNat x.toNat]⟩) (W.alloc (.cells #[.int .u8 x] e)) := by
  subst hn
  refine conv_bytes _ src dst e hs he hd W.heap.size 0 1 1 [UInt8.ofNat x.toNat] rfl (fun i hi => ?_)
  have h0 : i = 0 := by omega
  subst h0
  have h := (Row.new W e [.int .u8 x]).cell 0
  have hx : ((UInt8.ofNat x.toNat).toNat : Int) = x := by simp; omega
  rw [h]
  simp only [List.map_cons, List.map_nil, List.getElem?_cons_zero, bv, hx]

end Go.Proofs.YtheidjnapoipaaaGreatDoor
