/- How many acts can come in. -/
import Derived.SizedLaws
import Derived.Test.YtcecibopanfmgaaKActs
namespace Go.Proofs.Ytcecibopanfmgaa
open Go.ChangeShapes Go.WideShapes Go.RowKit Go.Deep
set_option linter.unusedVariables false
theorem acts_data {H : Type} {enc : TypeId × Value → H} {W : World} {a0 : Option Addr} {len cap fuel : Nat} {x : DataW H × List MemPlace}
    (hf : DataW.trod enc Try.prog W 0 (fun _ => true) true fuel 22 [.slice a0 len cap] = some x) : len = 0 ∨ ∃ elems spare, x.1 = .slice elems spare ∧ elems.length = len := by
  rcases open_slice Try.underlying22 hf with ⟨hcs, hx⟩ | ⟨a, len', cap', m, n, D, Pl, hcs, _, hl, hm, hz, hx, hcell⟩
  · simp at hcs
    exact .inl hcs.2.1
  · simp at hcs
    obtain ⟨_, rfl, _⟩ := hcs
    exact .inr ⟨_, _, by rw [hx], by simp⟩
theorem act_bytes : 1 ≤ Try.prog.bytesOf 31 := by decide +kernel
theorem acts_few {H : Type} {enc : TypeId × Value → H} {W : World} {a0 : Option Addr} {len cap fuel : Nat} {x : DataW H × List MemPlace} {ts : List TypeId} {ds : List (DataW H)} {j : Nat}
    (h : (DataW.weightsEach Try.prog ts ds).all (· ≤ reachBytes) = true) (ht : ts[j]? = some 22) (hd : ds[j]? = some x.1)
    (hf : DataW.trod enc Try.prog W 0 (fun _ => true) true fuel 22 [.slice a0 len cap] = some x) : len ≤ 140737488355328 := by
  have h47 := reachBytes_lt
  rcases acts_data hf with rfl | ⟨elems, spare, hx, hl⟩
  · omega
  · rw [hx] at hd
    have hh := sized_slice h ht hd Try.underlying22
    have hb := act_bytes
    have h2 : elems.length * 1 ≤ (elems.length + spare.length) * Try.prog.bytesOf 31 := Nat.mul_le_mul (by omega) hb
    omega
end Go.Proofs.Ytcecibopanfmgaa
