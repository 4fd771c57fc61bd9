/- What the rows say of the program's variables. -/
import Derived.Lib.LaidTab
import Derived.LaidLaws
import Derived.Test.YtldjnegoefdadaaGreatDoorVLift
import Derived.Test.YtldjnegoefdadaaGreatDoorVAwk
namespace Go.Proofs.YtldjnegoefdadaaGreatDoor
open Go.RowKit
set_option linter.unusedVariables false

theorem laidMet_tail_v {P : Program} {x : String × DataW Unit} {r : List (String × DataW Unit)} {w : World} (h : laidMet P (x :: r) w) : laidMet P r w := by
  obtain ⟨ps, hv, hn, hc⟩ := h
  obtain ⟨n, d⟩ := x
  obtain ⟨g, t, cs, fuel, p, q, _, _, _, _, hq, rfl⟩ := hv
  exact ⟨q, hq, (List.nodup_append.1 hn).2.1, fun b off hb => hc b off (List.mem_append.2 (.inr hb))⟩
/-- An array of two arrays of three numbers, cell for cell. -/
theorem cells_of_v2 {H : Type} {enc : TypeId × Value → H} {P : Program} {w : World} {base : Nat} {sp : Nat → Bool} {held : Bool} {fuel : Nat} {t e u : TypeId} {cs : List Value} {z0 z1 : List Int} {p : List MemPlace}
    (ht : P.underlying t = some (.array 2 e)) (he : P.underlying e = some (.array 3 u)) (hu : P.underlying u = some (.int .u16)) (hce : P.cellsOf e = 3) (hct : P.cellsOf t = 6) (hcu : P.cellsOf u = 1)
    (h : DataW.trod enc P w base sp held fuel t cs = some (.agg [Lib.tabData .u16 z0, Lib.tabData .u16 z1], p)) : cs = (z0 ++ z1).map fun z => Value.int .u16 z := by
  cases fuel with
  | zero => simp [DataW.trod] at h
  | succ fuel =>
    simp only [DataW.trod, ht, hce, hct] at h
    split at h
    · rename_i hl
      obtain ⟨xs, hm, hx⟩ := Option.map_eq_some_iff.1 h
      have hxs : xs.map (·.1) = [(Lib.tabData .u16 z0 : DataW H), Lib.tabData .u16 z1] := by
        have := congrArg Prod.fst hx
        simpa using this
      match xs, hxs, hm with
      | [(x0, q0), (x1, q1)], hxs, hm =>
        simp only [List.map_cons, List.map_nil, List.cons.injEq, and_true] at hxs
        obtain ⟨e0, e1⟩ := hxs
        obtain ⟨b0, hb0, hf0⟩ := Lib.mapM_at hm 0 0 (by simp)
        obtain ⟨b1, hb1, hf1⟩ := Lib.mapM_at hm 1 1 (by simp)
        simp only [List.getElem?_cons_zero, List.getElem?_cons_succ, Option.some.injEq] at hb0 hb1
        subst hb0 hb1
        rw [e0] at hf0
        rw [e1] at hf1
        have k0 := Lib.cells_of_tab he hu hcu hce hf0
        have k1 := Lib.cells_of_tab he hu hcu hce hf1
        have hcat : cs = (cs.drop (0 * 3)).take 3 ++ (cs.drop (1 * 3)).take 3 := by
          have hl6 : cs.length = 6 := by simpa using hl
          rw [List.take_of_length_le (l := cs.drop (1 * 3)) (by rw [List.length_drop]; omega)]
          simp
        rw [hcat, k0, k1, List.map_append]
    · cases h

theorem T10_of_laidV {W : World} (h : laidMetH Tryz.prog [("math/bits.deBruijn32tab", Rows.laid_math_bits_deBruijn32tab), ("math/bits.deBruijn64tab", Rows.laid_math_bits_deBruijn64tab), ("internal/strconv.uint64pow10", Rows.laid_internal_strconv_uint64pow10), ("unicode/utf8.acceptRanges", Rows.laid_unicode_utf8_acceptRanges), ("strconv.ErrRange", Rows.laid_strconv_ErrRange), ("strconv.ErrSyntax", Rows.laid_strconv_ErrSyntax), ("cashier/version.known", Rows.laid_cashier_version_known), ("unicode/utf8.first", Rows.laid_unicode_utf8_first)] W) : T10 W :=
  Lib.tabIs_of_head (g := 2) (t := 234) (e := 52) (n := 20) (rest := [("unicode/utf8.acceptRanges", Rows.laid_unicode_utf8_acceptRanges), ("strconv.ErrRange", Rows.laid_strconv_ErrRange), ("strconv.ErrSyntax", Rows.laid_strconv_ErrSyntax), ("cashier/version.known", Rows.laid_cashier_version_known), ("unicode/utf8.first", Rows.laid_unicode_utf8_first)]) (by kernel_rfl) (by kernel_rfl) Tryz.underlying234 Tryz.underlying52 (by kernel_rfl) (by kernel_rfl) (laidMet_tail_v (laidMet_tail_v h))
theorem ER_of_laidV {W : World} (h : laidMetH Tryz.prog [("math/bits.deBruijn32tab", Rows.laid_math_bits_deBruijn32tab), ("math/bits.deBruijn64tab", Rows.laid_math_bits_deBruijn64tab), ("internal/strconv.uint64pow10", Rows.laid_internal_strconv_uint64pow10), ("unicode/utf8.acceptRanges", Rows.laid_unicode_utf8_acceptRanges), ("strconv.ErrRange", Rows.laid_strconv_ErrRange), ("strconv.ErrSyntax", Rows.laid_strconv_ErrSyntax), ("cashier/version.known", Rows.laid_cashier_version_known), ("unicode/utf8.first", Rows.laid_unicode_utf8_first)] W) : ER W := by
  have h2 : laidMet Tryz.prog [("strconv.ErrRange", Rows.laid_strconv_ErrRange), ("strconv.ErrSyntax", Rows.laid_strconv_ErrSyntax), ("cashier/version.known", Rows.laid_cashier_version_known), ("unicode/utf8.first", Rows.laid_unicode_utf8_first)] W := (laidMet_tail_v (laidMet_tail_v (laidMet_tail_v (laidMet_tail_v h))))
  obtain ⟨ps, ⟨g', t', cs, fuel, p, q, hg', ht', hvar, hd, _, _⟩, _⟩ := h2
  obtain rfl := Option.some.inj ((show Tryz.prog.globalNamed "strconv.ErrRange" = some 4 by kernel_rfl).symm.trans hg')
  obtain rfl := Option.some.inj ((show (Tryz.prog.globals[4]?).map (·.type) = some 174 by kernel_rfl).symm.trans ht')
  obtain ⟨f2, te, pe, hcs, _, _⟩ := iface_of_trod Tryz.underlying174 hd
  have h0 := World.var?_cell (show Tryz.prog.globalNamed "strconv.ErrRange" = some 4 by kernel_rfl) hvar 0
  have h1 : cs[0]? = some (.iface te pe) := by rw [← Array.getElem?_toList, hcs]; rfl
  exact ⟨.iface te pe, by rw [← h1]; exact h0, Or.inr ⟨te, pe, rfl⟩⟩
theorem NV_of_laidV {W : World} (h : laidMetH Tryz.prog [("math/bits.deBruijn32tab", Rows.laid_math_bits_deBruijn32tab), ("math/bits.deBruijn64tab", Rows.laid_math_bits_deBruijn64tab), ("internal/strconv.uint64pow10", Rows.laid_internal_strconv_uint64pow10), ("unicode/utf8.acceptRanges", Rows.laid_unicode_utf8_acceptRanges), ("strconv.ErrRange", Rows.laid_strconv_ErrRange), ("strconv.ErrSyntax", Rows.laid_strconv_ErrSyntax), ("cashier/version.known", Rows.laid_cashier_version_known), ("unicode/utf8.first", Rows.laid_unicode_utf8_first)] W) : NV W := by
  have h2 : laidMet Tryz.prog [("cashier/version.known", Rows.laid_cashier_version_known), ("unicode/utf8.first", Rows.laid_unicode_utf8_first)] W := (laidMet_tail_v (laidMet_tail_v (laidMet_tail_v (laidMet_tail_v (laidMet_tail_v (laidMet_tail_v h))))))
  obtain ⟨ps, ⟨g', t', cs, fuel, p, q, hg', ht', hvar, hd, _, _⟩, _⟩ := h2
  obtain rfl := Option.some.inj ((show Tryz.prog.globalNamed "cashier/version.known" = some 0 by kernel_rfl).symm.trans hg')
  obtain rfl := Option.some.inj ((show (Tryz.prog.globals[0]?).map (·.type) = some 167 by kernel_rfl).symm.trans ht')
  have hcs := cells_of_v2 (z0 := [2, 1, 0]) (z1 := [2, 2, 0]) Tryz.underlying167 Tryz.underlying130 Tryz.underlying128 (by kernel_rfl) (by kernel_rfl) (by kernel_rfl) hd
  unfold World.var? at hvar
  rw [show Tryz.prog.globalNamed "cashier/version.known" = some 0 by kernel_rfl] at hvar
  simp only [Option.bind_some] at hvar
  split at hvar
  · rename_i cs' t fr hq
    refine ⟨t, fr, ?_⟩
    rw [hq]
    obtain rfl := Option.some.inj hvar
    congr 2
    apply Array.ext'
    rw [hcs]
    rfl
  · cases hvar
theorem VG_of_laidV {W : World} (h : laidMetH Tryz.prog [("math/bits.deBruijn32tab", Rows.laid_math_bits_deBruijn32tab), ("math/bits.deBruijn64tab", Rows.laid_math_bits_deBruijn64tab), ("internal/strconv.uint64pow10", Rows.laid_internal_strconv_uint64pow10), ("unicode/utf8.acceptRanges", Rows.laid_unicode_utf8_acceptRanges), ("strconv.ErrRange", Rows.laid_strconv_ErrRange), ("strconv.ErrSyntax", Rows.laid_strconv_ErrSyntax), ("cashier/version.known", Rows.laid_cashier_version_known), ("unicode/utf8.first", Rows.laid_unicode_utf8_first)] W) (hs : W.ShapedOpen Tryz.prog) : VG W := ⟨T10_of_laidV h, M_of_shaped hs, ER_of_laidV h⟩
end Go.Proofs.YtldjnegoefdadaaGreatDoor
