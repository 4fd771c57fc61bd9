/- The walk of DiskPlays. -/
import Derived.Test.YtcecibopanfmgaaQSame
namespace Go.Proofs.Ytcecibopanfmgaa
open Go.RowKit Go.Maps Go.Shelf
set_option linter.unusedVariables false
set_option linter.unusedSimpArgs false

theorem wpAnyH_strong {P : Program} {md : Region.Mode} {ops : Array Oper} {Q : Exit → Act → World → Prop} {S1 S2 : World → Prop} (hS : ∀ W, S2 W → S1 W) : ∀ (fuel : Nat) (listed : Array Bool) (a : Act) (w : World), wpAnyH P md ops Q S2 fuel listed a w → wpAnyH P md ops Q S1 fuel listed a w
  | 0, _, _, _, h => h
  | fuel + 1, _, _, _, h => ⟨h.1, fun i hi => wpOp_mono (fun a' w' h' => ⟨hS w' h'.1, wpAnyH_strong hS fuel _ a' w' h'.2⟩) (h.2 i hi)⟩
theorem tmod5 (x : Int) : x.tmod 5 = 0 ∨ (x.tmod 5 = 1 ∨ x.tmod 5 = -1) ∨ (x.tmod 5 = 2 ∨ x.tmod 5 = -2) ∨ (x.tmod 5 = 3 ∨ x.tmod 5 = -3) ∨ (x.tmod 5 = 4 ∨ x.tmod 5 = -4) := by
  have h : (x.tmod 5).natAbs = x.natAbs % 5 := by rw [Int.natAbs_tmod]; rfl
  have h2 : x.natAbs % 5 < 5 := Nat.mod_lt _ (by omega)
  omega
section
variable {T : Nat → Prop} {w w' : World} {p q : Nat} {D E D' E' : DS}
theorem Do_any (hP : Pair T w p q D D.reff) (hs : D.steps < 1000000) (hh : D.hangs.length < 1000000) (a : AC) (ha : a.ok) :
    Calls Try.prog 10 #[.pointer (some ⟨p, 0, none⟩), .pointer (some ⟨q, 0, none⟩), acV a] w (DoPost T w p q D) := by
  rcases tmod5 a.what with h | h | h | h | h
  · exact Do_write hP hs hh a ha h
  · exact Do_sync hP hs hh a ha h
  · exact Do_read hP hs hh a ha h
  · exact Do_fuse hP hs hh a ha h
  · exact Do_crash hP hs hh a ha h
end

set_option maxRecDepth 100000 in
set_option maxHeartbeats 4000000 in
theorem DiskPlays_walk (a0 : Int) (v : Value) (l : List AC) (w : World) (w0 : (Lit.int .i64 a0).wf = true) (w1 : Acts w v l) (n1 : l.length ≤ 9223372036854775807) :
    Calls Try.prog 3 #[.int .i64 a0, v] w fun e w' => e = .returned (.bool true) ∧ Below w.heap.size w w' := by
  obtain ⟨q0, cap, qb, qo, rfl, hq1, hq2⟩ := id w1
  have HQ := Lib.hid (And.intro hq1 hq2)
  obtain ⟨N, hN⟩ : ∃ N, l.length = N := ⟨_, rfl⟩
  have HN := Lib.hid hN
  rw [hN] at n1
  clear w1 hq1 hq2
  rw [hN]
  clear hN
  have HAW := Lib.hid (awake11_any (w := w))
  by_cases hn : 16 ≤ a0 ∧ a0 ≤ 4096
  · obtain ⟨n, rfl⟩ := Int.eq_ofNat_of_zero_le (show 0 ≤ a0 by omega)
    have hn1 : 16 ≤ n := by omega
    have hn2 : n ≤ 4096 := by omega
    have HNN := Lib.hid (And.intro hn1 hn2)
    clear w0 hn hn1 hn2
    go_enter Try.func3, Try.ntmps3
    go_wp2_with fail
    refine HAW.out.mono ?_
    rintro e w1 ⟨rfl, hb1⟩
    have HB1 := Lib.hid hb1
    clear hb1
    go_wp2_with fail
    refine (New_any n HNN.out.1 HNN.out.2 _).mono ?_
    rintro e w2 ⟨rfl, hD, hB2⟩
    have hd2 : DiskIs (fun k => k < w1.heap.size) w2 (w1.heap.size + 2) (newDS n) := ⟨_, _, _, _, hD _ (fun k h => h)⟩
    clear hD
    obtain ⟨p, hp⟩ : ∃ p, w1.heap.size + 2 = p := ⟨_, rfl⟩
    rw [hp] at hd2 ⊢
    have H2 := Lib.hid (And.intro hd2 hB2)
    clear hp hd2 hB2
    go_wp2_with fail
    refine (RNew_any n HNN.out.1 HNN.out.2 _).mono ?_
    rintro e w3 ⟨rfl, hR, hB3⟩
    have hr3 : RefIs (fun k => k < w2.heap.size) w3 (w2.heap.size + 1) (newDS n) := ⟨_, _, hR _ (fun k h => h)⟩
    clear hR
    obtain ⟨q, hq⟩ : ∃ q, w2.heap.size + 1 = q := ⟨_, rfl⟩
    rw [hq] at hr3 ⊢
    have hP3 : Pair (fun k => k < w1.heap.size) w3 p q (newDS n) (newDS n).reff := by
      have hs2 := H2.out.2.size
      have hs3 := hB3.size
      refine ⟨fun k => k < w1.heap.size ∨ (w2.heap.size ≤ k ∧ k < w3.heap.size), fun k hk => by omega, fun k hk => .inl hk, (H2.out.1.more (fun g hg => ?_)).below hB3, hr3.more (fun g hg => ?_)⟩
      · rcases hg with h | h
        · exact .inl h
        · exact .inr h.1
      · have hor : g < w1.heap.size ∨ (g < w3.heap.size ∧ ¬ (g < w1.heap.size ∨ (w2.heap.size ≤ g ∧ g < w3.heap.size))) := hg
        exact .inl (by show g < w2.heap.size; omega)
    have hk3 : Keeps (fun k => k < w1.heap.size) w1 w3 := (Keeps.of_below (L := fun k => k < w1.heap.size) H2.out.2 (fun k hk _ => hk)).trans (Keeps.of_below (L := fun k => k < w1.heap.size) hB3 (fun k hk _ => hk))
    have H3 := Lib.hid (And.intro hP3 hk3)
    clear hq hr3 hP3 hk3 hB3 H2
    by_cases hbig : N ≤ 40
    rotate_left
    · have hbi : (40 : Int) < (N : Int) := by omega
      go_wp2_with fail
      go_ret
      exact ⟨rfl, HB1.out.trans ((H3.out.2.below (Nat.le_refl _) (fun k h => h)).mono HB1.out.size)⟩
    have hbi : ¬ (40 : Int) < (N : Int) := by omega
    go_wp2_with fail
    go_loopw [48] (fun i wr => ∃ j : Nat, i = .int .i64 j ∧ j ≤ N ∧ Hid (∃ D : DS, Pair (fun k => k < w1.heap.size) wr p q D D.reff ∧ D.steps ≤ j ∧ D.hangs.length ≤ j ∧ Keeps (fun k => k < w1.heap.size) w1 wr)) (fun i _ => N - (intOf i).toNat)
    case atStart => exact ⟨0, rfl, Nat.zero_le _, Lib.hid ⟨newDS n, H3.out.1, Nat.le_refl _, Nat.le_refl _, H3.out.2⟩⟩
    case round =>
      obtain ⟨j, rfl, hj, HJ⟩ := hrel
      by_cases hlt : j < N
      · have hltI : (j : Int) < (N : Int) := by omega
        obtain ⟨D, hP, hsD, hhD, hkD⟩ := HJ.out
        obtain ⟨hq, hcs⟩ := HQ.out
        obtain ⟨rfl, hqb⟩ := hq (by have := HN.out; omega)
        obtain ⟨hok, hrg⟩ := hcs j (by have := HN.out; omega)
        obtain ⟨c, hc⟩ : ∃ c, l.getD j default = c := ⟨_, rfl⟩
        rw [hc] at hok hrg
        have hB0 : Below w.heap.size w wr := HB1.out.trans ((hkD.below (Nat.le_refl _) (fun k h => h)).mono HB1.out.size)
        have hrw : wr.rangeAt qb (qo + j * 3) c.cells := fun k v hk => (hB0.cell (p := ⟨qb, qo + j * 3 + k, none⟩) hqb).trans (hrg k v hk)
        obtain ⟨C, hC⟩ : ∃ C, c.cells = C := ⟨_, rfl⟩
        have hCi : (Try.prog.info? 31).map (·.size) = some C.length := by rw [← hC]; kernel_rfl
        have hCo : C.toArray.all (·.oneCell') = true := by rw [← hC]; exact acts_one c
        rw [hC] at hrw
        have HC := Lib.hid (And.intro hc (And.intro hok (And.intro hrw (And.intro hCi (And.intro hCo hC)))))
        have HS := Lib.hid (Row.new wr 31 [.int .i64 0, .int .i64 0, .int .u8 0])
        have HP := Lib.hid (And.intro hP (And.intro hsD (And.intro hhD hkD)))
        clear hq hcs hqb hok hrg hc hB0 hrw hC hCi hCo hP hsD hhD hkD HJ
        go_wp2_with (first
          | (with_reducible refine wpList_load_mid rfl 31 (.tmp 50) rfl qb (qo + j * 3) rfl C _ HC.out.2.2.1 Try.underlying31 rfl HC.out.2.2.2.1 ?_)
          | (refine wpList_store_row rfl 31 (.tmp 9) (.tmp 51) rfl wr.heap.size C.toArray rfl rfl 31 #[.int .i64 0, .int .i64 0, .int .u8 0] HS.out (by rw [List.size_toArray]; exact HC.out.2.2.2.1) (by rw [← HC.out.2.2.2.2.2]; rfl) HC.out.2.2.2.2.1 ?_)
          | fail)
        obtain ⟨hP, hsD, hhD, hkD⟩ := HP.out
        have hq := HS.out.put C
        have hb6 := below_setRow (B := wr.heap.size) ((Below.refl wr.heap.size wr).alloc (Nat.le_refl _) (.cells #[.int .i64 0, .int .i64 0, .int .u8 0] 31)) (Nat.le_refl _) C.toArray
        have hsz6 : ((wr.alloc (.cells #[.int .i64 0, .int .i64 0, .int .u8 0] 31)).setRow wr.heap.size C.toArray).heap.size = wr.heap.size + 1 := by simp [World.setRow]
        have hP6 := hP.grow (T' := fun k => k < w1.heap.size ∨ k = wr.heap.size) hb6 (fun k hk => by
          rcases hk with h | h
          · exact .inl h
          · exact .inr ⟨by omega, by omega⟩)
        have hk6 := hkD.trans (Keeps.of_below (L := fun k => k < w1.heap.size) hb6 (fun k hk _ => hk))
        obtain ⟨g, hg⟩ : ∃ g, wr.heap.size = g := ⟨_, rfl⟩
        rw [hg] at hP6 hq hk6
        rw [hg]
        clear hb6 hsz6 HS hP hkD
        generalize (wr.alloc (Obj.cells #[Value.int IntKind.i64 0, Value.int IntKind.i64 0, Value.int IntKind.u8 0] 31)).setRow g C.toArray = wb at hq hP6 hk6 ⊢
        have HA := Lib.hid hq
        have HG : Hid (Pair (fun k => k < w1.heap.size ∨ k = g) wb.drew p q D D.reff) := Lib.hid (hP6.below (below_drewN (Below.refl _ _) 1))
        have HK6 := Lib.hid (And.intro hk6 (And.intro hsD hhD))
        have HDO : Hid (∀ W : World, Pair (fun k => k < w1.heap.size ∨ k = g) W p q D D.reff → Calls Try.prog 10 #[.pointer (some ⟨p, 0, none⟩), .pointer (some ⟨q, 0, none⟩), .agg C.toArray] W (DoPost (fun k => k < w1.heap.size ∨ k = g) W p q D)) := Lib.hid fun W hW => by
          have h := Do_any hW (by omega) (by omega) c HC.out.2.1
          have e : acV c = .agg C.toArray := by rw [← HC.out.2.2.2.2.2]; rfl
          rw [e] at h
          exact h
        clear hq hP6 hk6 hg HP hsD hhD
        refine wp_region_noPanic ?_
        refine wp_region_held_drew (S := fun W => Row W g 31 C) (by kernel_rfl) HA.out.drew (fun hHeld => ?_)
        refine wpAnyH_take (i := 0) (oi := { dst := some 52, op := Op.move (Operand.tmp 5), type := 24, pos := "law.go:96", after := #[], guard := none }) (v := ?vvp_0) rfl (by kernel_rfl) (by kernel_rfl) (by kernel_rfl) (fun _ _ _ h => h) (Or.inl ⟨by rfl, ?yyp_0⟩) hHeld ?_
        case vvp_0 => exact .pointer (some ⟨p, 0, none⟩)
        case yyp_0 =>
          intro W hS
          go_simp
        try simp only [Act.put, List.setIfInBounds_toArray, List.set_cons_zero, List.set_cons_succ]
        refine wpAnyH_take (i := 1) (oi := { dst := some 53, op := Op.move (Operand.tmp 7), type := 28, pos := "law.go:96", after := #[], guard := none }) (v := ?vvp_1) rfl (by kernel_rfl) (by kernel_rfl) (by kernel_rfl) (fun _ _ _ h => h) (Or.inl ⟨by rfl, ?yyp_1⟩) hHeld ?_
        case vvp_1 => exact .pointer (some ⟨q, 0, none⟩)
        case yyp_1 =>
          intro W hS
          go_simp
        try simp only [Act.put, List.setIfInBounds_toArray, List.set_cons_zero, List.set_cons_succ]
        refine' wpAnyH_take (i := 2) (oi := { dst := some 54, op := Op.load 31 (Operand.tmp 9), type := 31, pos := "law.go:96", after := #[], guard := none }) (v := .agg C.toArray) rfl (by kernel_rfl) (by kernel_rfl) (by kernel_rfl) (fun _ _ _ h => h) (yieldsIf_load_mid (by rfl) _ _ rfl g 0 rfl C _ (fun W h => (fun j v hj => by rw [Nat.zero_add, h.cell]; exact hj)) Try.underlying31 rfl HC.out.2.2.2.1) hHeld ?_
        try simp only [Act.put, List.setIfInBounds_toArray, List.set_cons_zero, List.set_cons_succ]
        refine wpAnyH_ready (rs := [3]) (by kernel_rfl) (by simp) (AllReadyH.cons (o := { dst := some 55, op := Op.call { callee := Callee.value (Operand.func 10), args := #[Operand.tmp 52, Operand.tmp 53, Operand.tmp 54], argTypes := #[24, 28, 31] }, type := 4, pos := "law.go:96", after := #[{ on := 0, ground := Ground.data }, { on := 1, ground := Ground.data }, { on := 2, ground := Ground.data }], guard := none }) rfl (fun K hK => ?_) AllReadyH.nil)
        go_simp
        go_at_call 10
        refine (HDO.out _ HG.out).mono ?_
        rintro e w4 ⟨rfl, D4, P4, hs4, hh4, k4⟩
        have a4 : Row w4 g 31 C := (k4.block g HA.out.lt (.inr rfl)).trans HA.out
        have H4 := Lib.hid (And.intro P4 (And.intro hs4 (And.intro hh4 k4)))
        obtain ⟨S4, gr4, hv4, hr4⟩ := P4.refAt
        have r4 := hr4.row
        obtain ⟨RC, HRC⟩ : ∃ RC, Hid (RC = [Value.slice (some ⟨gr4, 0, none⟩) D4.reff.lasts.length D4.reff.lasts.length, hv4, .int .i64 (D4.steps : Nat), .int .i64 D4.reff.fuse, .bool D4.down]) := ⟨_, Lib.hid rfl⟩
        have r4 : Row w4 q 36 RC := by rw [HRC.out]; exact r4
        obtain ⟨T4, gl4, gm4, hw4, Dm4, hd4⟩ := P4.diskAt
        have HDN := Lib.hid (Down_any hd4)
        have HSP := Lib.hid (Steps_any hd4)
        obtain ⟨sp, hsp⟩ : ∃ sp, D4.steps = sp := ⟨_, rfl⟩
        obtain ⟨dn, hdn⟩ : ∃ dn, D4.down = dn := ⟨_, rfl⟩
        rw [hsp] at HSP HRC
        rw [hdn] at HDN HRC
        have hdif : ∀ b : Bool, (b != b) = false := fun b => by cases b <;> rfl
        refine hK.out _ _ a4 (fun hHeld1 => ?_)
        clear hK K P4 hs4 hh4 k4 hsp hdn hr4 hd4
        have hHeld : Row w4 g 31 C ∧ Row w4 q 36 RC := ⟨a4, r4⟩
        have HS4 := Lib.hid hHeld
        refine wpAnyH_strong (S2 := fun W => Row W g 31 C ∧ Row W q 36 RC) (fun W h => h.1) _ _ _ _ ?_
        clear a4 r4 hHeld1
        try simp only [Act.put, List.setIfInBounds_toArray, List.set_cons_zero, List.set_cons_succ]
        refine wpAnyH_take (i := 4) (oi := { dst := some 56, op := Op.unOp UnOp.not 4 (Operand.tmp 55), type := 4, pos := "law.go:96", after := #[{ on := 3, ground := Ground.data }], guard := none }) (v := ?vvp_4) rfl (by kernel_rfl) (by kernel_rfl) (by kernel_rfl) (fun _ _ _ h => h) (Or.inl ⟨by rfl, ?yyp_4⟩) hHeld ?_
        case vvp_4 => exact .bool false
        case yyp_4 =>
          intro W hS
          go_simp
        try simp only [Act.put, List.setIfInBounds_toArray, List.set_cons_zero, List.set_cons_succ]
        refine wpAnyH_take (i := 5) (oi := { dst := some 57, op := Op.move (Operand.tmp 56), type := 4, pos := "law.go:96", after := #[{ on := 4, ground := Ground.data }, { on := 3, ground := Ground.chain }], guard := none }) (v := ?vvp_5) rfl (by kernel_rfl) (by kernel_rfl) (by kernel_rfl) (fun _ _ _ h => h) (Or.inl ⟨by rfl, ?yyp_5⟩) hHeld ?_
        case vvp_5 => exact .bool false
        case yyp_5 =>
          intro W hS
          go_simp
        try simp only [Act.put, List.setIfInBounds_toArray, List.set_cons_zero, List.set_cons_succ]
        refine wpAnyH_take (i := 6) (oi := { dst := some 58, op := Op.move (Operand.tmp 5), type := 24, pos := "law.go:96", after := #[{ on := 5, ground := Ground.guard }], guard := some (5, false) }) (v := ?vvp_6) rfl (by kernel_rfl) (by kernel_rfl) (by kernel_rfl) (fun _ _ _ h => h) (Or.inl ⟨by rfl, ?yyp_6⟩) hHeld ?_
        case vvp_6 => exact .pointer (some ⟨p, 0, none⟩)
        case yyp_6 =>
          intro W hS
          go_simp
        try simp only [Act.put, List.setIfInBounds_toArray, List.set_cons_zero, List.set_cons_succ]
        refine wpAnyH_take (i := 8) (oi := { dst := some 60, op := Op.move (Operand.tmp 7), type := 28, pos := "law.go:96", after := #[{ on := 5, ground := Ground.guard }], guard := some (5, false) }) (v := ?vvp_8) rfl (by kernel_rfl) (by kernel_rfl) (by kernel_rfl) (fun _ _ _ h => h) (Or.inl ⟨by rfl, ?yyp_8⟩) hHeld ?_
        case vvp_8 => exact .pointer (some ⟨q, 0, none⟩)
        case yyp_8 =>
          intro W hS
          go_simp
        try simp only [Act.put, List.setIfInBounds_toArray, List.set_cons_zero, List.set_cons_succ]
        refine wpAnyH_take (i := 9) (oi := { dst := some 61, op := Op.nilCheck (Operand.tmp 60), type := 0, pos := "law.go:96", after := #[{ on := 8, ground := Ground.data }, { on := 5, ground := Ground.guard }], guard := some (5, false) }) (v := ?vvp_9) rfl (by kernel_rfl) (by kernel_rfl) (by kernel_rfl) (fun _ _ _ h => h) (Or.inl ⟨by rfl, ?yyp_9⟩) hHeld ?_
        case vvp_9 => exact .pointer (some ⟨q, 0, none⟩)
        case yyp_9 =>
          intro W hS
          go_simp
        try simp only [Act.put, List.setIfInBounds_toArray, List.set_cons_zero, List.set_cons_succ]
        refine wpAnyH_take (i := 10) (oi := { dst := some 62, op := Op.fieldAddr 36 (Operand.tmp 61) 4, type := 0, pos := "law.go:96", after := #[{ on := 9, ground := Ground.data }, { on := 5, ground := Ground.guard }], guard := some (5, false) }) (v := ?vvp_10) rfl (by kernel_rfl) (by kernel_rfl) (by kernel_rfl) (fun _ _ _ h => h) (Or.inl ⟨by rfl, ?yyp_10⟩) hHeld ?_
        case vvp_10 => exact .pointer (some ⟨q, 4, none⟩)
        case yyp_10 =>
          intro W hS
          go_simp
        try simp only [Act.put, List.setIfInBounds_toArray, List.set_cons_zero, List.set_cons_succ]
        refine wpAnyH_take (i := 11) (oi := { dst := some 63, op := Op.load 4 (Operand.tmp 62), type := 4, pos := "law.go:96", after := #[{ on := 10, ground := Ground.data }, { on := 5, ground := Ground.guard }], guard := some (5, false) }) (v := ?vvp_11) rfl (by kernel_rfl) (by kernel_rfl) (by kernel_rfl) (fun _ _ _ h => h) (Or.inl ⟨by rfl, ?yyp_11⟩) hHeld ?_
        case vvp_11 => exact .bool dn
        case yyp_11 =>
          intro W hS
          have q0 := Row.cell hS.2 4
          simp only [HRC.out, List.getElem?_cons_zero, List.getElem?_cons_succ] at q0
          go_simp
        try simp only [Act.put, List.setIfInBounds_toArray, List.set_cons_zero, List.set_cons_succ]
        refine wpAnyH_ready (rs := [7]) (by kernel_rfl) (by simp) (AllReadyH.cons (o := { dst := some 59, op := Op.call { callee := Callee.value (Operand.func 11), args := #[Operand.tmp 58], argTypes := #[24] }, type := 4, pos := "law.go:96", after := #[{ on := 6, ground := Ground.data }, { on := 5, ground := Ground.chain }, { on := 5, ground := Ground.guard }], guard := some (5, false) }) rfl (fun K hK => ?_) AllReadyH.nil)
        go_simp
        go_at_call 11
        refine HDN.out.mono ?_
        rintro e w1 ⟨rfl, rfl⟩
        refine hK.out _ _ HS4.out (fun hHeld => ?_)
        clear hK K
        try simp only [Act.put, List.setIfInBounds_toArray, List.set_cons_zero, List.set_cons_succ]
        refine wpAnyH_take (i := 12) (oi := { dst := some 64, op := Op.binOp BinOp.neq 4 (Operand.tmp 59) (Operand.tmp 63) 4, type := 4, pos := "law.go:96", after := #[{ on := 7, ground := Ground.data }, { on := 11, ground := Ground.data }, { on := 5, ground := Ground.guard }], guard := some (5, false) }) (v := ?vvp_12) rfl (by kernel_rfl) (by kernel_rfl) (by kernel_rfl) (fun _ _ _ h => h) (Or.inl ⟨by rfl, ?yyp_12⟩) hHeld ?_
        case vvp_12 => exact .bool false
        case yyp_12 =>
          intro W hS
          go_simp
        try simp only [Act.put, List.setIfInBounds_toArray, List.set_cons_zero, List.set_cons_succ]
        refine wpAnyH_take (i := 13) (oi := { dst := some 65, op := Op.pick (Operand.tmp 57) (Operand.const (Value.bool true)) (Operand.tmp 64), type := 4, pos := "law.go:96", after := #[{ on := 5, ground := Ground.data }, { on := 12, ground := Ground.data }], guard := none }) (v := ?vvp_13) rfl (by kernel_rfl) (by kernel_rfl) (by kernel_rfl) (fun _ _ _ h => h) (Or.inl ⟨by rfl, ?yyp_13⟩) hHeld ?_
        case vvp_13 => exact .bool false
        case yyp_13 =>
          intro W hS
          go_simp
        try simp only [Act.put, List.setIfInBounds_toArray, List.set_cons_zero, List.set_cons_succ]
        refine wpAnyH_take (i := 14) (oi := { dst := some 66, op := Op.move (Operand.tmp 65), type := 4, pos := "law.go:96", after := #[{ on := 13, ground := Ground.data }, { on := 7, ground := Ground.chain }], guard := none }) (v := ?vvp_14) rfl (by kernel_rfl) (by kernel_rfl) (by kernel_rfl) (fun _ _ _ h => h) (Or.inl ⟨by rfl, ?yyp_14⟩) hHeld ?_
        case vvp_14 => exact .bool false
        case yyp_14 =>
          intro W hS
          go_simp
        try simp only [Act.put, List.setIfInBounds_toArray, List.set_cons_zero, List.set_cons_succ]
        refine wpAnyH_take (i := 15) (oi := { dst := some 67, op := Op.move (Operand.tmp 5), type := 24, pos := "law.go:96", after := #[{ on := 14, ground := Ground.guard }], guard := some (14, false) }) (v := ?vvp_15) rfl (by kernel_rfl) (by kernel_rfl) (by kernel_rfl) (fun _ _ _ h => h) (Or.inl ⟨by rfl, ?yyp_15⟩) hHeld ?_
        case vvp_15 => exact .pointer (some ⟨p, 0, none⟩)
        case yyp_15 =>
          intro W hS
          go_simp
        try simp only [Act.put, List.setIfInBounds_toArray, List.set_cons_zero, List.set_cons_succ]
        refine wpAnyH_take (i := 17) (oi := { dst := some 69, op := Op.move (Operand.tmp 7), type := 28, pos := "law.go:96", after := #[{ on := 14, ground := Ground.guard }], guard := some (14, false) }) (v := ?vvp_17) rfl (by kernel_rfl) (by kernel_rfl) (by kernel_rfl) (fun _ _ _ h => h) (Or.inl ⟨by rfl, ?yyp_17⟩) hHeld ?_
        case vvp_17 => exact .pointer (some ⟨q, 0, none⟩)
        case yyp_17 =>
          intro W hS
          go_simp
        try simp only [Act.put, List.setIfInBounds_toArray, List.set_cons_zero, List.set_cons_succ]
        refine wpAnyH_take (i := 18) (oi := { dst := some 70, op := Op.nilCheck (Operand.tmp 69), type := 0, pos := "law.go:96", after := #[{ on := 17, ground := Ground.data }, { on := 14, ground := Ground.guard }], guard := some (14, false) }) (v := ?vvp_18) rfl (by kernel_rfl) (by kernel_rfl) (by kernel_rfl) (fun _ _ _ h => h) (Or.inl ⟨by rfl, ?yyp_18⟩) hHeld ?_
        case vvp_18 => exact .pointer (some ⟨q, 0, none⟩)
        case yyp_18 =>
          intro W hS
          go_simp
        try simp only [Act.put, List.setIfInBounds_toArray, List.set_cons_zero, List.set_cons_succ]
        refine wpAnyH_take (i := 19) (oi := { dst := some 71, op := Op.fieldAddr 36 (Operand.tmp 70) 2, type := 0, pos := "law.go:96", after := #[{ on := 18, ground := Ground.data }, { on := 14, ground := Ground.guard }], guard := some (14, false) }) (v := ?vvp_19) rfl (by kernel_rfl) (by kernel_rfl) (by kernel_rfl) (fun _ _ _ h => h) (Or.inl ⟨by rfl, ?yyp_19⟩) hHeld ?_
        case vvp_19 => exact .pointer (some ⟨q, 2, none⟩)
        case yyp_19 =>
          intro W hS
          go_simp
        try simp only [Act.put, List.setIfInBounds_toArray, List.set_cons_zero, List.set_cons_succ]
        refine wpAnyH_take (i := 20) (oi := { dst := some 72, op := Op.load 3 (Operand.tmp 71), type := 3, pos := "law.go:96", after := #[{ on := 19, ground := Ground.data }, { on := 14, ground := Ground.guard }], guard := some (14, false) }) (v := ?vvp_20) rfl (by kernel_rfl) (by kernel_rfl) (by kernel_rfl) (fun _ _ _ h => h) (Or.inl ⟨by rfl, ?yyp_20⟩) hHeld ?_
        case vvp_20 => exact .int .i64 sp
        case yyp_20 =>
          intro W hS
          have q0 := Row.cell hS.2 2
          simp only [HRC.out, List.getElem?_cons_zero, List.getElem?_cons_succ] at q0
          go_simp
        try simp only [Act.put, List.setIfInBounds_toArray, List.set_cons_zero, List.set_cons_succ]
        refine wpAnyH_ready (rs := [16]) (by kernel_rfl) (by simp) (AllReadyH.cons (o := { dst := some 68, op := Op.call { callee := Callee.value (Operand.func 12), args := #[Operand.tmp 67], argTypes := #[24] }, type := 3, pos := "law.go:96", after := #[{ on := 15, ground := Ground.data }, { on := 14, ground := Ground.chain }, { on := 14, ground := Ground.guard }], guard := some (14, false) }) rfl (fun K hK => ?_) AllReadyH.nil)
        go_simp
        go_at_call 12
        refine HSP.out.mono ?_
        rintro e w1 ⟨rfl, rfl⟩
        refine hK.out _ _ HS4.out (fun hHeld => ?_)
        clear hK K
        try simp only [Act.put, List.setIfInBounds_toArray, List.set_cons_zero, List.set_cons_succ]
        refine wpAnyH_take (i := 21) (oi := { dst := some 73, op := Op.binOp BinOp.neq 3 (Operand.tmp 68) (Operand.tmp 72) 3, type := 4, pos := "law.go:96", after := #[{ on := 16, ground := Ground.data }, { on := 20, ground := Ground.data }, { on := 14, ground := Ground.guard }], guard := some (14, false) }) (v := ?vvp_21) rfl (by kernel_rfl) (by kernel_rfl) (by kernel_rfl) (fun _ _ _ h => h) (Or.inl ⟨by rfl, ?yyp_21⟩) hHeld ?_
        case vvp_21 => exact .bool false
        case yyp_21 =>
          intro W hS
          go_simp
        try simp only [Act.put, List.setIfInBounds_toArray, List.set_cons_zero, List.set_cons_succ]
        refine wpAnyH_take (i := 22) (oi := { dst := some 74, op := Op.pick (Operand.tmp 66) (Operand.const (Value.bool true)) (Operand.tmp 73), type := 4, pos := "law.go:96", after := #[{ on := 14, ground := Ground.data }, { on := 21, ground := Ground.data }], guard := none }) (v := ?vvp_22) rfl (by kernel_rfl) (by kernel_rfl) (by kernel_rfl) (fun _ _ _ h => h) (Or.inl ⟨by rfl, ?yyp_22⟩) hHeld ?_
        case vvp_22 => exact .bool false
        case yyp_22 =>
          intro W hS
          go_simp
        try simp only [Act.put, List.setIfInBounds_toArray, List.set_cons_zero, List.set_cons_succ]
        refine wpAnyH_done (by kernel_rfl) ?_ _
        refine NoPanic.normal ?_

        go_wp2_with fail
        obtain ⟨P4, hs4, hh4, k4⟩ := H4.out
        have hk := HK6.out
        have HJ2 : Hid (∃ D : DS, Pair (fun k => k < w1.heap.size) w4 p q D D.reff ∧ D.steps ≤ j + 1 ∧ D.hangs.length ≤ j + 1 ∧ Keeps (fun k => k < w1.heap.size) w1 w4) := Lib.hid
          ⟨D4, P4.less (fun k h => .inl h), by omega, by omega, (hk.1.drew1).trans (k4.mono (fun k h => .inl h))⟩
        clear P4 hs4 hh4 k4 hk
        go_roundw
        case rel => exact ⟨j + 1, by go_num, by omega, HJ2⟩
        case measure => simp [intOf]; omega
      · have hje : j = N := by omega
        subst hje
        clear hlt hj
        go_wp2_with fail
        obtain ⟨D, hP, hsD, hhD, hkD⟩ := HJ.out
        refine (Same_any hP (by omega) (by omega)).mono ?_
        rintro e w5 ⟨rfl, hb5⟩
        have HF := Lib.hid (HB1.out.trans ((hkD.below (Nat.le_refl _) (fun k h => h)).mono HB1.out.size))
        have HF5 := Lib.hid (HF.out.trans (hb5.mono HF.out.size))
        clear hP hkD hb5
        go_wp2_with fail
        go_ret
        exact ⟨rfl, HF5.out⟩
  · have hno : a0 < 16 ∨ 4096 < a0 := by omega
    have HNO := Lib.hid hno
    clear hn hno w0
    go_enter Try.func3, Try.ntmps3
    go_wp2_with fail
    refine HAW.out.mono ?_
    rintro e w1 ⟨rfl, hb1⟩
    have HB1 := Lib.hid hb1
    clear hb1
    go_wp2_with fail
    refine (New_no a0 HNO.out _).mono ?_
    rintro e w2 ⟨rfl, rfl⟩
    go_wp2_with fail
    refine (RNew_no a0 HNO.out _).mono ?_
    rintro e w2 ⟨rfl, rfl⟩
    go_wp2_with fail
    go_ret
    exact ⟨rfl, HB1.out⟩
end Go.Proofs.Ytcecibopanfmgaa
