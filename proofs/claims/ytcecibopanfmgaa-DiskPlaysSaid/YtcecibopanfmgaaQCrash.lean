/- The document's disk: the power goes, and comes again. -/
import Derived.Test.YtcecibopanfmgaaQSync
import Derived.Test.YtcecibopanfmgaaKFill
namespace Go.Proofs.Ytcecibopanfmgaa
open Go.RowKit Go.Maps
set_option linter.unusedVariables false
set_option linter.unusedSimpArgs false

theorem kept_low : ∀ (r : List (Nat × List UInt8)) (l : List (List UInt8)) (k : Int), k < 1 → kept r l k = l
  | [], l, k, h => rfl
  | x :: r, l, k, h => kept_stop x r l k h
theorem flat_set1 (l : List (List UInt8)) (h : ∀ b ∈ l, b.length = 128) (i : Nat) (hi : i < l.length) (j : Nat) (hj : j < 128) (c : UInt8) :
    (l.set i ((l.getD i []).set j c)).flatten = l.flatten.set (i * 128 + j) c := by
  induction l generalizing i with
  | nil => simp at hi
  | cons x l ih =>
    have hx := h x (by simp)
    cases i with
    | zero =>
      rw [List.set_cons_zero, List.flatten_cons, List.flatten_cons, Nat.zero_mul, Nat.zero_add, List.set_append_left _ _ (by omega)]
      rfl
    | succ i =>
      rw [List.set_cons_succ, List.flatten_cons, List.flatten_cons, List.set_append_right _ _ (by omega), hx]
      have e : (i + 1) * 128 + j - 128 = i * 128 + j := by omega
      rw [e, ← ih (fun b hb => h b (by simp [hb])) i (by simpa using hi)]
      rfl
/-- The first bytes of x over b. -/
def overB (x b : List UInt8) (m : Nat) : List UInt8 := x.take m ++ b.drop m
theorem overB_len {x b : List UInt8} (hx : x.length = 128) (hb : b.length = 128) {m : Nat} (hm : m ≤ 128) : (overB x b m).length = 128 := by
  unfold overB
  rw [List.length_append, List.length_take, List.length_drop, hx, hb]
  omega
theorem getD_set_self {l : List (List UInt8)} {i : Nat} (hi : i < l.length) (b : List UInt8) : (l.set i b).getD i [] = b := by
  rw [List.getD_eq_getElem?_getD, List.getElem?_set_self hi]
  rfl

theorem set_over_none {cur : List (List UInt8)} {i : Nat} (hi : i < cur.length) {x : List UInt8} : cur.set i (overB x (cur.getD i []) 0) = cur := by
  unfold overB
  rw [List.take_zero, List.drop_zero, List.nil_append]
  apply List.ext_getElem?
  intro j
  rw [List.getElem?_set]
  split
  · rename_i h; subst h
    rw [List.getD_eq_getElem?_getD, List.getElem?_eq_getElem hi]; rfl
  · rfl
theorem setCell_grown (w : World) (g o : Nat) (v : Value) : w.grownBy (w.setCell ⟨g, o, none⟩ v) (some g) :=
  ⟨rfl, rfl, rfl, by simp [World.setCell], fun k hk hne => Below.heap_setCell w ⟨g, o, none⟩ v k (fun e => hne (by rw [e]))⟩
/-- The inner loop's relation: behind i bytes m of them are done. -/
structure InR (D : DS) (gl : Nat) (w wr : World) (K : Int) (x : Nat × List UInt8) (cur : List (List UInt8)) (i m : Nat) : Prop where
  mi : m ≤ i
  full : m < i → K - m < 1
  pos : 0 < m → (m : Int) ≤ K
  row : Row wr gl 42 ((cur.set x.1 (overB x.2 (cur.getD x.1 []) m)).flatten.map bv)
  gr : w.grownBy wr (some gl)

section
variable {L L' : Nat → Prop} {w w' : World} {p gl : Nat} {hv : Value} {D D' : DS}
set_option maxRecDepth 20000 in
set_option maxHeartbeats 1000000 in
theorem RCrash_any (h : RefAt L w p gl hv D) (keep : Int) (hk1 : -9223372036854775808 ≤ keep) (hk2 : keep ≤ 9223372036854775807) (hh : D.hangs.length < 1000000000) :
    Calls Try.prog 26 #[.pointer (some ⟨p, 0, none⟩), .int .i64 keep] w fun e w' => e = .returned (.tuple #[]) ∧ RefIs L w' p (D.crashed keep) ∧ Keeps L w w' := by
  have hz9 := (zero_of_info rW_info).1
  obtain ⟨a, c, rfl⟩ := own_slice h.han
  obtain ⟨n, hn⟩ : ∃ n, D.hangs.length = n := ⟨_, rfl⟩
  have c1 := h.row.cell 1
  simp only [List.getElem?_cons_zero, List.getElem?_cons_succ] at c1
  rw [hn] at c1 hh
  have H := Lib.hid h
  have HN := Lib.hid (And.intro hn hh)
  have HR0 : Hid (CrR D gl w w keep 0 keep D.lasts) := Lib.hid ⟨hk1, hk2, rfl, rfl, h.good.rows, h.las, World.grownBy.refl w _⟩
  have hnI : (n : Int) < 1000000000 := by omega
  clear h hn hh hk1 hk2
  go_enter Try.func26, Try.ntmps26
  go_wp2_with fail
  go_loopw [1, 12] (fun t i wr => ∃ (k : Nat) (K : Int) (cur : List (List UInt8)), k ≤ n ∧ t = .int .i64 K ∧ i = .int .i64 k ∧ Hid (CrR D gl w wr keep k K cur)) (fun _ i _ => n - (intOf i).toNat)
  case atStart => exact ⟨0, keep, _, Nat.zero_le _, rfl, rfl, HR0⟩
  case round =>
    obtain ⟨k, K, cur, hkn, rfl, rfl, HREL⟩ := hrel
    by_cases hlt : k < n
    · obtain ⟨x, hx⟩ : ∃ x, D.hangs[k]? = some x := ⟨_, List.getElem?_eq_getElem (by rw [HN.out.1]; exact hlt)⟩
      have hdrop : D.hangs.drop k = x :: D.hangs.drop (k + 1) := by
        rw [List.drop_eq_getElem_cons (by rw [HN.out.1]; exact hlt)]
        congr 1
        exact (List.getElem?_eq_some_iff.1 hx).2
      have hh := H.out
      rw [HN.out.1] at hh
      have hxl := hh.good.blks x (List.mem_of_getElem? hx)
      have hxs := hh.good.sect x (List.mem_of_getElem? hx)
      obtain ⟨gh, rfl, hrng⟩ := RefAt.nth H.out k x hx (wr := wr) (fun g hg hne => HREL.out.gr.block g hg (fun e => hne (by injection e)))
      obtain ⟨WC, hF⟩ := copyF wr x hxl
      rw [hF.eq] at hrng
      obtain ⟨x1, hx1⟩ : ∃ x1, x.1 = x1 := ⟨_, rfl⟩
      have hWC : WC = .int .i64 (x1 : Nat) :: x.2.map bv := by rw [← hF.eq, ← hx1]; rfl
      obtain ⟨nl, hnl⟩ : ∃ nl, D.lasts.length = nl := ⟨_, rfl⟩
      rw [hnl, hx1] at hxs
      have hltI : (k : Int) < (n : Int) := by omega
      have hx1I : (x1 : Int) < (nl : Int) := by omega
      have hx10 : ¬ (x1 : Int) < 0 := by omega
      have hx1g : ¬ (nl : Int) ≤ (x1 : Int) := by omega
      have HW := Lib.hid (And.intro hrng hF)
      have HX := Lib.hid (And.intro hx (And.intro hx1 (And.intro hdrop (And.intro hxl (And.intro hWC (And.intro hlt hxs))))))
      have HNL := Lib.hid hnl
      have HAF : Hid (Row ((wr.alloc (.cells (.int .i64 0 :: zW).toArray 69)).setRow wr.heap.size WC.toArray) wr.heap.size 69 WC ∧ Below wr.heap.size wr ((wr.alloc (.cells (.int .i64 0 :: zW).toArray 69)).setRow wr.heap.size WC.toArray)) := Lib.hid ⟨hF.row, hF.bel⟩
      clear hh hx hxl hxs hrng hF hWC hx1 hlt hdrop c1 hnl
      go_wp2_with (first
        | (with_reducible refine wpList_load_mid rfl 69 (.tmp 14) rfl gh (k * 129) rfl WC _ HW.out.1 Try.underlying69 rfl HW.out.2.size ?_)
        | (refine wpList_store_row rfl 69 (.tmp 5) (.tmp 15) rfl wr.heap.size WC.toArray rfl rfl 69 (Value.int IntKind.i64 0 :: zW).toArray HW.out.2.row0 (by rw [List.size_toArray]; exact HW.out.2.size) (by rw [List.size_toArray, List.size_toArray, HW.out.2.len, HW.out.2.z129]) HW.out.2.one ?_; have hAF := HAF.out; have hsA := Array.size_pos_of_mem (α := Nat) (xs := #[0]) (a := 0) (by simp); clear hsA HAF; generalize (wr.alloc (.cells (.int .i64 0 :: zW).toArray 69)).setRow wr.heap.size WC.toArray = W2 at hAF ⊢; have HAF := Lib.hid hAF; clear hAF)
        | fail)
      obtain ⟨q, hq⟩ : ∃ q, wr.heap.size = q := ⟨_, rfl⟩
      have hAF := HAF.out
      rw [hq] at hAF ⊢
      have b1 := HREL.out.b1
      have b2 := HREL.out.b2
      have hcl : cur.length = nl := by rw [HREL.out.len, HNL.out]
      have hcx : (cur.getD x1 []).length = 128 := getD_len HREL.out.r128 (by rw [hcl]; exact HX.out.2.2.2.2.2.2)
      have hgr2 : w.grownBy W2 (some gl) := HREL.out.gr.andThen (below_grow (by rw [hq]; exact hAF.2)) (fun j hj => by cases hj)
      have HI0 : Hid (InR D gl w W2 K x cur 0 0) := Lib.hid (by
        refine ⟨Nat.le_refl _, fun h => absurd h (by omega), fun h => absurd h (by omega), ?_, hgr2⟩
        have e : cur.set x.1 (overB x.2 (cur.getD x.1 []) 0) = cur := set_over_none (by rw [hcl, HX.out.2.1]; exact HX.out.2.2.2.2.2.2)
        rw [e]
        exact HREL.out.row.below hAF.2 (by rw [← hq]; exact HREL.out.row.lt))
      have HQ : Hid (Row W2 q 69 WC ∧ q ≠ gl ∧ w.heap.size ≤ q) := Lib.hid ⟨hAF.1, fun e => by have := HREL.out.row.lt; omega, by have := HREL.out.gr.size; omega⟩
      have HCL := Lib.hid (And.intro hcl hcx)
      clear hAF HAF hgr2 hq hcl hcx
      generalize wr = wo at HREL HW
      go_loopw [1, 6] (fun t u wr => ∃ (i m : Nat), i ≤ 128 ∧ t = .int .i64 (K - m) ∧ u = .int .i64 i ∧ Hid (InR D gl w wr K x cur i m ∧ Row wr q 69 WC)) (fun _ u _ => 128 - (intOf u).toNat)
      case atStart => exact ⟨0, 0, Nat.zero_le _, by simp, rfl, Lib.hid ⟨HI0.out, HQ.out.1⟩⟩
      case round =>
        obtain ⟨i, m, hi, rfl, rfl, HIN⟩ := hrel
        by_cases hi8 : i < 128
        · have hi8I : (i : Int) < 128 := by omega
          have hi0I : ¬ (i : Int) < 0 := by omega
          have hi8g : ¬ (128 : Int) ≤ (i : Int) := by omega
          by_cases hK : 0 < K - (m : Int)
          · have hmi : m = i := by
              have h1 := HIN.out.1.mi
              rcases Nat.lt_or_ge m i with h | h
              · have := HIN.out.1.full h; omega
              · omega
            subst hmi
            obtain ⟨c8, hc8⟩ : ∃ c8, x.2[m]? = some c8 := ⟨_, List.getElem?_eq_getElem (by rw [HX.out.2.2.2.1]; exact hi8)⟩
            obtain ⟨hin, hrq⟩ := HIN.out
            obtain ⟨cm, hcm⟩ : ∃ cm, cur.set x.1 (overB x.2 (cur.getD x.1 []) m) = cm := ⟨_, rfl⟩
            have hov : (overB x.2 (cur.getD x.1 []) m).length = 128 := overB_len HX.out.2.2.2.1 (by rw [HX.out.2.1]; exact HCL.out.2) hi
            have hcm8 : ∀ b ∈ cm, b.length = 128 := by rw [← hcm]; exact set_rows HREL.out.r128 _ _ hov
            have hcml : cm.length = nl := by rw [← hcm, List.length_set, HCL.out.1]
            have hrow := hin.row
            rw [hcm] at hrow
            have hfl := flat_length cm hcm8
            have hix : x1 * 128 + m < cm.flatten.length := by rw [hfl, hcml]; have := HX.out.2.2.2.2.2.2; omega
            obtain ⟨o8, ho8⟩ : ∃ o8, cm.flatten[x1 * 128 + m]? = some o8 := ⟨_, List.getElem?_eq_getElem hix⟩
            have hc := (Row.drew hrow).cell (x1 * 128 + m)
            rw [List.getElem?_map, ho8, Option.map_some, show bv o8 = .int .u8 (o8.toNat : Nat) from rfl] at hc
            have hfz := (Row.drew hrow).frozen (x1 * 128 + m)
            obtain ⟨RC, HRC⟩ : ∃ RC, Hid (RC = [Value.slice (some ⟨gl, 0, none⟩) nl nl, .slice (some ⟨gh, 0, none⟩) n c, .int .i64 (D.steps : Nat), .int .i64 D.fuse, .bool D.down]) := ⟨_, Lib.hid rfl⟩
            have hrp : Row wr p 36 RC := by
              have h := (hin.gr.block p H.out.row.lt (fun e => H.out.ne_lp (by injection e with e; exact e.symm))).trans H.out.row
              rw [HNL.out, HN.out.1] at h
              rw [HRC.out]
              exact h
            have HS0 : Hid (Row wr.drew p 36 RC ∧ Row wr.drew q 69 WC) := Lib.hid ⟨hrp.drew, hrq.drew⟩
            have HW0 : Hid (WC[0]? = some (.int .i64 (x1 : Nat))) := Lib.hid (by rw [HX.out.2.2.2.2.1]; rfl)
            have HW1 : Hid (WC[1 + m]? = some (.int .u8 (c8.toNat : Nat)) ∧ True) := Lib.hid ⟨by rw [HX.out.2.2.2.2.1, Nat.add_comm 1 m, List.getElem?_cons_succ, List.getElem?_map, hc8]; rfl, trivial⟩
            have HT := Lib.hid (And.intro hc hfz)
            have hwr : IntKind.i64.wrap (K - (m : Int) - 1) = K - (m : Int) - 1 := by rw [IntKind.wrap_i64]; omega
            have HFIN : Hid (InR D gl w ((wr.setCell ⟨gl, x1 * 128 + m, none⟩ (.int .u8 (c8.toNat : Nat))).drew) K x cur (m + 1) (m + 1) ∧ Row ((wr.setCell ⟨gl, x1 * 128 + m, none⟩ (.int .u8 (c8.toNat : Nat))).drew) q 69 WC) := Lib.hid (by
              refine ⟨⟨Nat.le_refl _, fun h => absurd h (by omega), fun _ => by omega, ?_, ?_⟩, Row.drew (hrq.far (fun e => HQ.out.2.1 e) _)⟩
              · have h1 := hrow.set (x1 * 128 + m) (bv c8)
                have e1 : cur.set x.1 (overB x.2 (cur.getD x.1 []) (m + 1)) = cm.set x1 ((cm.getD x1 []).set m c8) := by
                  have e2 : overB x.2 (cur.getD x.1 []) (m + 1) = (overB x.2 (cur.getD x.1 []) m).set m c8 := (part_set' x.2 (cur.getD x.1 []) m c8 hc8 (by rw [HX.out.2.2.2.1, HX.out.2.1, HCL.out.2])).symm
                  have hxl : x1 < cur.length := by rw [HCL.out.1]; exact HX.out.2.2.2.2.2.2
                  rw [e2, ← hcm, HX.out.2.1, getD_set_self hxl, List.set_set]
                rw [e1, flat_set1 cm hcm8 x1 (by rw [hcml]; exact HX.out.2.2.2.2.2.2) m hi8 c8, List.map_set]
                exact Row.drew h1
              · have hg := hin.gr.andThen (setCell_grown wr gl (x1 * 128 + m) (bv c8)) (fun j hj => .inr hj)
                exact ⟨hg.os, hg.tape, hg.output, hg.size, hg.block⟩)
            have HHI := Lib.hid hi8
            obtain ⟨J, hJ⟩ : ∃ J, K - (m : Int) = J := ⟨_, rfl⟩
            rw [hJ] at hK hwr ⊢
            have HJ := Lib.hid hJ
            have hJ2 : J ≤ 9223372036854775807 := by omega
            clear hJ b1 b2 hwr hi0I hi8g
            clear hin hrq hcm hov hcm8 hcml hrow hfl hix hc hfz hrp hc8 hi hi8 ho8
            have hvb : bv c8 = .int .u8 (c8.toNat : Nat) := rfl
            clear hvb
            go_wp2_with fail
            refine wp_region_noPanic ?_
            refine region_held_last 13 (S := fun W => Row W p 36 RC ∧ Row W q 69 WC) (by kernel_rfl) (by kernel_rfl) rfl HS0.out (fun hHeld => ?_)
            simp only [List.take_succ_cons, List.take_zero]
            refine wpAnyH_take (i := 0) (oi := { dst := some 22, op := Op.move (Operand.tmp 0), type := 28, pos := "ref.go:88", after := #[], guard := none }) (v := ?vvc_0) rfl (by kernel_rfl) (by kernel_rfl) (by kernel_rfl) (fun _ _ _ h => h) (Or.inl ⟨by rfl, ?yyc_0⟩) hHeld ?_
            case vvc_0 => exact .pointer (some ⟨p, 0, none⟩)
            case yyc_0 =>
              intro W hS
              go_simp
            try simp only [Act.put, List.setIfInBounds_toArray, List.set_cons_zero, List.set_cons_succ]
            refine wpAnyH_take (i := 1) (oi := { dst := some 23, op := Op.nilCheck (Operand.tmp 22), type := 0, pos := "ref.go:88", after := #[{ on := 0, ground := Ground.data }], guard := none }) (v := ?vvc_1) rfl (by kernel_rfl) (by kernel_rfl) (by kernel_rfl) (fun _ _ _ h => h) (Or.inl ⟨by rfl, ?yyc_1⟩) hHeld ?_
            case vvc_1 => exact .pointer (some ⟨p, 0, none⟩)
            case yyc_1 =>
              intro W hS
              go_simp
            try simp only [Act.put, List.setIfInBounds_toArray, List.set_cons_zero, List.set_cons_succ]
            refine wpAnyH_take (i := 2) (oi := { dst := some 24, op := Op.fieldAddr 36 (Operand.tmp 23) 0, type := 0, pos := "ref.go:88", after := #[{ on := 1, ground := Ground.data }], guard := none }) (v := ?vvc_2) rfl (by kernel_rfl) (by kernel_rfl) (by kernel_rfl) (fun _ _ _ h => h) (Or.inl ⟨by rfl, ?yyc_2⟩) hHeld ?_
            case vvc_2 => exact .pointer (some ⟨p, 0, none⟩)
            case yyc_2 =>
              intro W hS
              go_simp
            try simp only [Act.put, List.setIfInBounds_toArray, List.set_cons_zero, List.set_cons_succ]
            refine wpAnyH_take (i := 3) (oi := { dst := some 25, op := Op.load 33 (Operand.tmp 24), type := 33, pos := "ref.go:88", after := #[{ on := 2, ground := Ground.data }], guard := none }) (v := ?vvc_3) rfl (by kernel_rfl) (by kernel_rfl) (by kernel_rfl) (fun _ _ _ h => h) (Or.inl ⟨by rfl, ?yyc_3⟩) hHeld ?_
            case vvc_3 => exact .slice (some ⟨gl, 0, none⟩) nl nl
            case yyc_3 =>
              intro W hS
              obtain ⟨s1, s2⟩ := hS
              have q0 := s1.cell 0
              simp only [HRC.out, List.getElem?_cons_zero] at q0
              go_simp
            try simp only [Act.put, List.setIfInBounds_toArray, List.set_cons_zero, List.set_cons_succ]
            refine wpAnyH_take (i := 4) (oi := { dst := some 26, op := Op.fieldAddr 69 (Operand.tmp 5) 0, type := 0, pos := "ref.go:88", after := #[], guard := none }) (v := ?vvc_4) rfl (by kernel_rfl) (by kernel_rfl) (by kernel_rfl) (fun _ _ _ h => h) (Or.inl ⟨by rfl, ?yyc_4⟩) hHeld ?_
            case vvc_4 => exact .pointer (some ⟨q, 0, none⟩)
            case yyc_4 =>
              intro W hS
              go_simp
            try simp only [Act.put, List.setIfInBounds_toArray, List.set_cons_zero, List.set_cons_succ]
            refine wpAnyH_take (i := 5) (oi := { dst := some 27, op := Op.load 3 (Operand.tmp 26), type := 3, pos := "ref.go:88", after := #[{ on := 4, ground := Ground.data }], guard := none }) (v := ?vvc_5) rfl (by kernel_rfl) (by kernel_rfl) (by kernel_rfl) (fun _ _ _ h => h) (Or.inl ⟨by rfl, ?yyc_5⟩) hHeld ?_
            case vvc_5 => exact .int .i64 (x1 : Nat)
            case yyc_5 =>
              intro W hS
              obtain ⟨s1, s2⟩ := hS
              have q0 := s2.cell 0
              rw [HW0.out] at q0
              go_simp
            try simp only [Act.put, List.setIfInBounds_toArray, List.set_cons_zero, List.set_cons_succ]
            refine wpAnyH_take (i := 6) (oi := { dst := some 28, op := Op.move (Operand.tmp 6), type := 3, pos := "ref.go:88", after := #[], guard := none }) (v := ?vvc_6) rfl (by kernel_rfl) (by kernel_rfl) (by kernel_rfl) (fun _ _ _ h => h) (Or.inl ⟨by rfl, ?yyc_6⟩) hHeld ?_
            case vvc_6 => exact .int .i64 m
            case yyc_6 =>
              intro W hS
              go_simp
            try simp only [Act.put, List.setIfInBounds_toArray, List.set_cons_zero, List.set_cons_succ]
            refine wpAnyH_take (i := 7) (oi := { dst := some 29, op := Op.move (Operand.tmp 6), type := 3, pos := "ref.go:88", after := #[], guard := none }) (v := ?vvc_7) rfl (by kernel_rfl) (by kernel_rfl) (by kernel_rfl) (fun _ _ _ h => h) (Or.inl ⟨by rfl, ?yyc_7⟩) hHeld ?_
            case vvc_7 => exact .int .i64 m
            case yyc_7 =>
              intro W hS
              go_simp
            try simp only [Act.put, List.setIfInBounds_toArray, List.set_cons_zero, List.set_cons_succ]
            refine wpAnyH_take (i := 8) (oi := { dst := some 30, op := Op.fieldAddr 69 (Operand.tmp 5) 1, type := 0, pos := "ref.go:88", after := #[], guard := none }) (v := ?vvc_8) rfl (by kernel_rfl) (by kernel_rfl) (by kernel_rfl) (fun _ _ _ h => h) (Or.inl ⟨by rfl, ?yyc_8⟩) hHeld ?_
            case vvc_8 => exact .pointer (some ⟨q, 1, none⟩)
            case yyc_8 =>
              intro W hS
              go_simp
            try simp only [Act.put, List.setIfInBounds_toArray, List.set_cons_zero, List.set_cons_succ]
            refine wpAnyH_take (i := 9) (oi := { dst := some 31, op := Op.indexAddr 42 (Operand.tmp 30) (Operand.tmp 29), type := 0, pos := "ref.go:88", after := #[{ on := 8, ground := Ground.data }, { on := 7, ground := Ground.data }], guard := none }) (v := ?vvc_9) rfl (by kernel_rfl) (by kernel_rfl) (by kernel_rfl) (fun _ _ _ h => h) (Or.inl ⟨by rfl, ?yyc_9⟩) hHeld ?_
            case vvc_9 => exact .pointer (some ⟨q, 1 + m, none⟩)
            case yyc_9 =>
              intro W hS
              go_simp
            try simp only [Act.put, List.setIfInBounds_toArray, List.set_cons_zero, List.set_cons_succ]
            refine wpAnyH_take (i := 10) (oi := { dst := some 32, op := Op.load 5 (Operand.tmp 31), type := 5, pos := "ref.go:88", after := #[{ on := 9, ground := Ground.data }], guard := none }) (v := ?vvc_10) rfl (by kernel_rfl) (by kernel_rfl) (by kernel_rfl) (fun _ _ _ h => h) (Or.inl ⟨by rfl, ?yyc_10⟩) hHeld ?_
            case vvc_10 => exact .int .u8 (c8.toNat : Nat)
            case yyc_10 =>
              intro W hS
              obtain ⟨s1, s2⟩ := hS
              have q0 := s2.cell (1 + m)
              rw [HW1.out.1] at q0
              go_simp
            try simp only [Act.put, List.setIfInBounds_toArray, List.set_cons_zero, List.set_cons_succ]
            refine wpAnyH_take (i := 11) (oi := { dst := some 33, op := Op.indexAddr 33 (Operand.tmp 25) (Operand.tmp 27), type := 0, pos := "ref.go:88", after := #[{ on := 3, ground := Ground.data }, { on := 5, ground := Ground.data }], guard := none }) (v := ?vvc_11) rfl (by kernel_rfl) (by kernel_rfl) (by kernel_rfl) (fun _ _ _ h => h) (Or.inl ⟨by rfl, ?yyc_11⟩) hHeld ?_
            case vvc_11 => exact .pointer (some ⟨gl, x1 * 128, none⟩)
            case yyc_11 =>
              intro W hS
              go_simp
            try simp only [Act.put, List.setIfInBounds_toArray, List.set_cons_zero, List.set_cons_succ]
            refine wpAnyH_take (i := 12) (oi := { dst := some 34, op := Op.indexAddr 42 (Operand.tmp 33) (Operand.tmp 28), type := 0, pos := "ref.go:88", after := #[{ on := 11, ground := Ground.data }, { on := 6, ground := Ground.data }, { on := 0, ground := Ground.phase }, { on := 1, ground := Ground.phase }, { on := 2, ground := Ground.phase }, { on := 3, ground := Ground.phase }, { on := 4, ground := Ground.phase }, { on := 5, ground := Ground.phase }, { on := 6, ground := Ground.phase }, { on := 7, ground := Ground.phase }, { on := 8, ground := Ground.phase }, { on := 9, ground := Ground.phase }, { on := 10, ground := Ground.phase }], guard := none }) (v := ?vvc_12) rfl (by kernel_rfl) (by kernel_rfl) (by kernel_rfl) (fun _ _ _ h => h) (Or.inl ⟨by rfl, ?yyc_12⟩) hHeld ?_
            case vvc_12 => exact .pointer (some ⟨gl, x1 * 128 + m, none⟩)
            case yyc_12 =>
              intro W hS
              go_simp
            try simp only [Act.put, List.setIfInBounds_toArray, List.set_cons_zero, List.set_cons_succ]
            refine wpAnyH_done (by kernel_rfl) ?_ _
            show wpList _ _ _ [_] _ _
            have hc := HT.out.1
            have hfz := HT.out.2
            go_wp2_with fail
            refine NoPanic.normal ?_

            go_wp2_with fail
            go_roundw
            case rel => exact ⟨m + 1, m + 1, by have := HHI.out; omega, by rw [← HJ.out]; congr 1; omega, by go_num, HFIN⟩
            case measure => have := HHI.out; simp [intOf]; omega
          · have HFIN : Hid (InR D gl w wr K x cur (i + 1) m ∧ Row wr q 69 WC) := Lib.hid
              ⟨⟨by have := HIN.out.1.mi; omega, fun _ => by omega, HIN.out.1.pos, HIN.out.1.row, HIN.out.1.gr⟩, HIN.out.2⟩
            have HHI := Lib.hid hi8
            obtain ⟨J, hJ⟩ : ∃ J, K - (m : Int) = J := ⟨_, rfl⟩
            rw [hJ] at hK ⊢
            have HJ := Lib.hid hJ
            clear hJ b1 b2 hi0I hi8g hi hi8
            go_wp2_with fail
            go_roundw
            case rel => exact ⟨i + 1, m, by have := HHI.out; omega, by rw [← HJ.out], by go_num, HFIN⟩
            case measure => have := HHI.out; simp [intOf]; omega
        · have hi8e : i = 128 := by omega
          subst hi8e
          have HFIN : Hid (CrR D gl w wr keep (k + 1) (K - m) (cur.set x1 (overB x.2 (cur.getD x1 []) m))) := Lib.hid (by
            obtain ⟨hin, hrq⟩ := HIN.out
            have hmi := hin.mi
            have hpos := hin.pos
            have hrow := hin.row
            rw [HX.out.2.1] at hrow
            have hinv := HREL.out.inv
            rw [HX.out.2.2.1] at hinv
            refine ⟨by omega, by omega, ?_, by rw [List.length_set, HREL.out.len], set_rows HREL.out.r128 _ _ (overB_len HX.out.2.2.2.1 HCL.out.2 hmi), hrow, hin.gr⟩
            by_cases hK : K < 1
            · have hm0 : m = 0 := by
                rcases Nat.eq_zero_or_pos m with h | h
                · exact h
                · have := hpos h; omega
              subst hm0
              rw [kept_stop _ _ _ _ hK] at hinv
              rw [kept_low _ _ _ (by omega), ← hinv]
              exact set_over_none (by rw [HCL.out.1]; exact HX.out.2.2.2.2.2.2)
            · have hm : (m : Int) = min K 128 := by
                rcases Nat.lt_or_ge m 128 with h | h
                · have h1 := hin.full h
                  rcases Nat.eq_zero_or_pos m with h2 | h2
                  · subst h2; omega
                  · have := hpos h2; omega
                · have : m = 128 := by omega
                  subst this
                  have := hpos (by omega)
                  omega
              rw [kept_go x _ cur K m hK hm, HX.out.2.1] at hinv
              exact hinv)
          have hlt := HX.out.2.2.2.2.2.1
          obtain ⟨J, hJ⟩ : ∃ J, K - (m : Int) = J := ⟨_, rfl⟩
          rw [hJ] at HFIN ⊢
          clear hJ b1 b2 hi hi8
          go_wp2_with fail
          go_roundw
          case rel => exact ⟨k + 1, J, _, by omega, rfl, by go_num, HFIN⟩
          case measure => simp [intOf]; omega
    · have hke : k = n := by omega
      subst hke
      have HZ : Hid (RefAt L wr p gl (.slice a k c) { D with lasts := kept D.hangs D.lasts keep }) := Lib.hid (by
        obtain ⟨b1, b2, inv, len, r128, row, gr⟩ := HREL.out
        rw [List.drop_of_length_le (by rw [HN.out.1]; exact Nat.le_refl _)] at inv
        have hh := H.out
        rw [HN.out.1] at hh
        rw [← inv]
        exact hh.lasting gr row len r128)
      have c1 := HZ.out.row.cell 1
      have c3 := HZ.out.row.cell 3
      have c4 := HZ.out.row.cell 4
      have f1 := HZ.out.row.frozen 1
      have f3 := HZ.out.row.frozen 3
      have f4 := HZ.out.row.frozen 4
      simp only [List.getElem?_cons_zero, List.getElem?_cons_succ] at c1 c3 c4
      clear hlt
      go_wp2
      go_end0
      have hd := HZ.out.dropped
      have hrow := (hd.row.set 4 (.bool false)).set 3 (.int .i64 (-1))
      simp only [List.set_cons_succ, List.set_cons_zero] at hrow
      have hfin : RefAt L (((wr.setCell ⟨p, 1, none⟩ (.slice none 0 0)).setCell ⟨p, 4, none⟩ (.bool false)).setCell ⟨p, 3, none⟩ (.int .i64 (-1))) p gl (.slice none 0 0) (D.crashed keep) :=
        hd.rowed (D' := D.crashed keep) rfl rfl (by show _ ≤ (-1 : Int); omega) (by show (-1 : Int) ≤ _; omega) hrow (fun g hg => by
          rw [Below.heap_setCell _ _ _ _ hg.symm, Below.heap_setCell _ _ _ _ hg.symm])
      exact ⟨rfl, ⟨_, _, hfin⟩, ((((Keeps.refl L w).grown HREL.out.gr (fun q hq => by injection hq with hq; subst hq; exact .inl H.out.fl)).setCell (p := ⟨p, 1, none⟩) (.inl H.out.fp) _).setCell (p := ⟨p, 4, none⟩) (.inl H.out.fp) _).setCell (p := ⟨p, 3, none⟩) (.inl H.out.fp) _⟩
end
end Go.Proofs.Ytcecibopanfmgaa
