/- What the row of a log's law says of the program's variable. -/
import Derived.Lib.LaidTab
import Derived.Test.YtiaaeniopjpfpaaGreatDoorSHash
import Derived.Test.YtiaaeniopjpfpaaGreatDoorRows
namespace Go.Proofs.YtiaaeniopjpfpaaGreatDoor
open Go.RowKit
set_option linter.unusedVariables false

theorem G_of_tab_l {W : World} (h : Lib.TabIs Tryz.prog W "cashier/sha.starts" .u32 [1779033703, 3144134277, 1013904242, 2773480762, 1359893119, 2600822924, 528734635, 1541459225]) : G W := by
  unfold Lib.TabIs World.var? at h
  rw [show Tryz.prog.globalNamed "cashier/sha.starts" = some 0 by kernel_rfl] at h
  simp only [Option.bind_some] at h
  split at h
  · rename_i cs t fr hq
    refine ⟨t, fr, ?_⟩
    rw [hq]
    obtain rfl := Option.some.inj h
    rfl
  · cases h
theorem laidMet_tail_l {P : Program} {x : String × DataW Unit} {r : List (String × DataW Unit)} {w : World} (h : laidMet P (x :: r) w) : laidMet P r w := by
  obtain ⟨ps, hv, hn, hc⟩ := h
  obtain ⟨n, d⟩ := x
  obtain ⟨g, t, cs, fuel, p, q, _, _, _, _, hq, rfl⟩ := hv
  exact ⟨q, hq, (List.nodup_append.1 hn).2.1, fun b off hb => hc b off (List.mem_append.2 (.inr hb))⟩
theorem G_of_laidL {W : World} (h : laidMetH Tryz.prog [("unicode/utf8.acceptRanges", Rows.laid_unicode_utf8_acceptRanges), ("cashier/sha.starts", Rows.laid_cashier_sha_starts), ("unicode/utf8.first", Rows.laid_unicode_utf8_first)] W) : G W :=
  G_of_tab_l (Lib.tabIs_of_head (g := 0) (t := 202) (e := 144) (n := 8) (rest := [("unicode/utf8.first", Rows.laid_unicode_utf8_first)]) (by kernel_rfl) (by kernel_rfl) Tryz.underlying202 Tryz.underlying144 (by kernel_rfl) (by kernel_rfl) (laidMet_tail_l h))
end Go.Proofs.YtiaaeniopjpfpaaGreatDoor
