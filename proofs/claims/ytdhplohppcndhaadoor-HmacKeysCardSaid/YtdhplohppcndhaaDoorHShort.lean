/- The first bytes of the sum by a key. -/
import Derived.Test.YtdhplohppcndhaaDoorHSumm
namespace Go.Proofs.YtdhplohppcndhaaDoor
open Go.RowKit
set_option linter.unusedVariables false
theorem hmacL_length (k t : List UInt8) : (hmacL k t).length = 32 := by unfold hmacL; exact shaL_length _

set_option maxRecDepth 20000 in
set_option maxHeartbeats 4000000 in
theorem HmShort_any (key : ByteArray) (hk : key.size ≤ 100000000) (n : Int) (hnw : -9223372036854775808 ≤ n ∧ n ≤ 9223372036854775807) (m : Nat) (hm : m ≤ 32) (hmm : min (max n 0) 32 = (m : Int)) (b2 o2 c2 : Nat) (xs : List ByteArray) (w : World) (hG : G w)
    (h2 : ∀ (j : Nat) x, xs[j]? = some x → w.cell? ⟨b2, o2 + j, none⟩ = some (.string x)) (hb2 : b2 < w.heap.size) (hn : xs.length ≤ 1000)
    (T : List UInt8) (hT : Lib.join (xs.map (·.data.toList)) [] = T) (hTl : T.length ≤ 140737488300000) :
    Calls Tryd.prog 20 #[.string key, .int .i64 n, .slice (some ⟨b2, o2, none⟩) xs.length c2] w fun e w' => e = .returned (.string ((⟨(hmacL key.data.toList T).toArray⟩ : ByteArray).extract 0 m)) ∧ Below w.heap.size w w' := by
  have HS := Lib.hid (fun (W : World) (hb : Below w.heap.size w W) => HmSum_any key hk b2 o2 c2 xs W (hG.below hb) (fun j x hx => (hb.cell (p := ⟨b2, o2 + j, none⟩) hb2).trans (h2 j x hx)) (Nat.lt_of_lt_of_le hb2 hb.size) hn T hT hTl)
  obtain ⟨r, hr⟩ : ∃ r : ByteArray, (⟨(hmacL key.data.toList T).toArray⟩ : ByteArray) = r := ⟨_, rfl⟩
  have hrs : r.size = 32 := by rw [← hr]; show (hmacL key.data.toList T).toArray.size = 32; rw [List.size_toArray, hmacL_length]
  rw [hr] at HS ⊢
  have hm32 : m ≤ r.size := by omega
  clear hr h2 hb2 hT hTl hG
  go_enter Tryd.func20, Tryd.ntmps20
  go_wp2_with fail
  refine (HS.out _ (Below.refl _ _)).mono ?_
  rintro e w1 ⟨rfl, hb1⟩
  go_wp2_with fail
  go_ret
  exact ⟨rfl, hb1⟩
end Go.Proofs.YtdhplohppcndhaaDoor
