/- The walk of DiskKeeps. -/
import Derived.Test.YtehoofddklbnaaaKSettle
namespace Go.Proofs.Ytehoofddklbnaaa
open Go.RowKit Go.Maps Go.Shelf
set_option linter.unusedVariables false
set_option linter.unusedSimpArgs false
attribute [local go_sem] Oper.semAt_some
attribute [-go_sem] Instr.buildSlice

set_option maxRecDepth 100000 in
set_option maxHeartbeats 4000000 in
theorem DiskKeeps_walk (v : Value) (l : List AC) (v2 : Value) (l2 : List AC) (a2 : Int) (w : World) (w0 : Acts w v l) (n0 : l.length ≤ 140737488355328) (w1 : Acts w v2 l2) (n1 : l2.length ≤ 140737488355328) (w2 : (Lit.int .i64 a2).wf = true) :
    Calls Try.prog 4 #[v, v2, .int .i64 a2] w fun e w' => e = .returned (.bool true) ∧ Below w.heap.size w w' := by
  have h2 : -9223372036854775808 ≤ a2 ∧ a2 ≤ 9223372036854775807 := by simpa [Lit.wf, IntKind.min, IntKind.max, IntKind.signed, IntKind.bits] using w2
  clear w2
  obtain ⟨q0, cap, qb, qo, rfl, hq1, hq2⟩ := id w0
  have HQ := Lib.hid (And.intro hq1 hq2)
  obtain ⟨N, hN⟩ : ∃ N, l.length = N := ⟨_, rfl⟩
  have HN := Lib.hid hN
  rw [hN] at n0
  clear w0 hq1 hq2
  rw [hN]
  clear hN
  obtain ⟨q2, cap2, qb2, qo2, rfl, hq1, hq2⟩ := id w1
  have HQ2 := Lib.hid (And.intro hq1 hq2)
  obtain ⟨N2, hN2⟩ : ∃ N2, l2.length = N2 := ⟨_, rfl⟩
  have HN2 := Lib.hid hN2
  rw [hN2] at n1
  have HI := Lib.hid h2
  clear w1 hq1 hq2 h2
  rw [hN2]
  clear hN2
  refine (callsIn_wide (n := 6)).1 ?_
  refine callsIn_of_wp_marks Try.func4 rfl trivial ?_ rfl
  simp only [Try.ntmps4, List.size_toArray, List.length_cons, List.length_nil, Nat.reduceAdd, Nat.reduceSub, Array.replicate_succ, Array.replicate_zero, List.push_toArray, List.append_toArray, List.nil_append, List.cons_append]
  rw [wpIn_wide]
  go_wp2_with fail
  refine awake11_any.mono ?_
  rintro e w1 ⟨rfl, hb1⟩
  have B1 : Below w.heap.size w w1 := ((Below.refl _ _).alloc (Nat.le_refl w.heap.size) _).trans (hb1.mono (by simp))
  have R1 : Boxed w1 w.heap.size 4 (.bool false) := (hb1.block _ (by simp)).trans (Boxed.new w 4 (.bool false))
  have hc1 := R1.cell
  have hf1 := R1.frozen
  clear hb1
  have HR := Lib.hid (And.intro B1 R1)
  clear B1 R1
  have hwr : IntKind.i64.wrap ((N : Int) + (N2 : Int)) = (N : Int) + (N2 : Int) := IntWalk.i64_in _ (by omega)
  by_cases hbig : N + N2 ≤ 40
  rotate_left
  · have hbi : (40 : Int) < (N : Int) + (N2 : Int) := by omega
    go_wp2_with fail
    have hR5 := (HR.out.2.set (.bool true)).cell
    exact ⟨.bool true, by simp [results, Try.f4, go_sem, hR5], rfl, HR.out.1.setCell (p := ⟨w.heap.size, 0, none⟩) (Nat.le_refl _) _⟩
  have hbi : decide ((40 : Int) < (N : Int) + (N2 : Int)) = false := by simp; omega
  go_wp2_with fail
  refine (New_any 16 (by omega) (by omega) _).mono ?_
  rintro e w2 ⟨rfl, hD, hB2⟩
  have hd2 : DiskIs (fun k => k < w1.heap.size) w2 (w1.heap.size + 2) (newDS 16) := ⟨_, _, _, _, hD _ (fun k h => h)⟩
  clear hD
  obtain ⟨p, hp⟩ : ∃ p, w1.heap.size + 2 = p := ⟨_, rfl⟩
  rw [hp] at hd2 ⊢
  have H2 := Lib.hid (And.intro hd2 hB2)
  clear hp hd2 hB2 hc1 hf1
  go_wp2_with fail
  go_loopw [39] (fun i wr => ∃ j : Nat, i = .int .i64 j ∧ j ≤ N ∧ Hid (DiskIs (fun k => k < w1.heap.size) wr p ((l.take j).foldl DS.acted (newDS 16)) ∧ Below w1.heap.size w1 wr)) (fun i _ => N - (intOf i).toNat)
  case atStart => exact ⟨0, rfl, Nat.zero_le _, H2⟩
  case round =>
    obtain ⟨j, rfl, hj, HJ⟩ := hrel
    by_cases hlt : j < N
    · have hltI : (j : Int) < (N : Int) := by omega
      obtain ⟨hq, hcs⟩ := HQ.out
      obtain ⟨rfl, hqb⟩ := hq (by have := HN.out; omega)
      obtain ⟨hok, hrg⟩ := hcs j (by have := HN.out; omega)
      obtain ⟨c, hc⟩ : ∃ c, l.getD j default = c := ⟨_, rfl⟩
      rw [hc] at hok hrg
      have hB0 : Below w.heap.size w wr := HR.out.1.trans (HJ.out.2.mono HR.out.1.size)
      have hrw : wr.rangeAt qb (qo + j * 3) c.cells := fun k v hk => (hB0.cell (p := ⟨qb, qo + j * 3 + k, none⟩) hqb).trans (hrg k v hk)
      obtain ⟨C, hC⟩ : ∃ C, c.cells = C := ⟨_, rfl⟩
      have hCi : (Try.prog.info? 31).map (·.size) = some C.length := by rw [← hC]; kernel_rfl
      have hCo : C.toArray.all (·.oneCell') = true := by rw [← hC]; exact acts_one c
      rw [hC] at hrw
      have HC := Lib.hid (And.intro hc (And.intro hok (And.intro hrw (And.intro hCi (And.intro hCo hC)))))
      have HS := Lib.hid (Row.new wr 31 [.int .i64 0, .int .i64 0, .int .u8 0])
      clear hq hcs hqb hok hrg hc hB0 hrw hC hCi hCo
      go_wp2_with (first
        | (with_reducible refine wpList_load_mid rfl 31 (.tmp 41) rfl qb (qo + j * 3) rfl C _ HC.out.2.2.1 Try.underlying31 rfl HC.out.2.2.2.1 ?_)
        | (refine wpList_store_row rfl 31 (.tmp 10) (.tmp 42) rfl wr.heap.size C.toArray rfl rfl 31 #[.int .i64 0, .int .i64 0, .int .u8 0] HS.out (by rw [List.size_toArray]; exact HC.out.2.2.2.1) (by rw [← HC.out.2.2.2.2.2]; rfl) HC.out.2.2.2.2.1 ?_))
      have HG0 := HJ.out.1.boxed
      have hq := HS.out.put C
      have hb6 := below_setRow (B := wr.heap.size) ((Below.refl wr.heap.size wr).alloc (Nat.le_refl _) (.cells #[.int .i64 0, .int .i64 0, .int .u8 0] 31)) (Nat.le_refl _) C.toArray
      have hBn := HJ.out.2
      have hB6 := hBn.trans (hb6.mono hBn.size)
      have hd6 := HG0.below hb6
      have hcalm := calm_acts (l.take j) calm_new
      have hlen : (l.take j).length ≤ 40 := by rw [List.length_take]; omega
      have hcs : ((l.take j).foldl DS.acted (newDS 16)).steps < 1000000000 ∧ ((l.take j).foldl DS.acted (newDS 16)).hangs.length < 1000000000 := ⟨by have := hcalm.steps; omega, by have := hcalm.hangs; omega⟩
      have hg1 := hq.lt
      have hn1 := hB6.size
      obtain ⟨g, hg⟩ : ∃ g, wr.heap.size = g := ⟨_, rfl⟩
      rw [hg] at hB6 hd6 hg1 hn1 hq
      rw [hg]
      clear hb6 hBn HG0 hcalm hlen HS
      have hswap : ∀ W : World, W = (wr.alloc (Obj.cells #[Value.int IntKind.i64 0, Value.int IntKind.i64 0, Value.int IntKind.u8 0] 31)).setRow g C.toArray → W = (wr.alloc (Obj.cells #[Value.int IntKind.i64 0, Value.int IntKind.i64 0, Value.int IntKind.u8 0] 31)).setRow g C.toArray := fun W h => h
      clear hswap
      generalize (wr.alloc (Obj.cells #[Value.int IntKind.i64 0, Value.int IntKind.i64 0, Value.int IntKind.u8 0] 31)).setRow g C.toArray = wb at hq hd6 hB6 hg1 hn1 ⊢
      have HG := Lib.hid (And.intro hq (And.intro hd6 (And.intro hB6 (And.intro (And.intro hg1 hn1) hcs))))
      have HC1 : Hid (C[1]? = some (.int .i64 c.place)) := Lib.hid (by rw [← HC.out.2.2.2.2.2]; rfl)
      have HC2 : Hid (C[2]? = some (.int .u8 c.byte.toNat)) := Lib.hid (by rw [← HC.out.2.2.2.2.2]; rfl)
      clear hq hd6 hB6 hg1 hn1 hg hcs
      refine wp_region_noPanic ?_
      refine region_held_last 6 (S := fun W => SB wb W) (by kernel_rfl) (by kernel_rfl) rfl (SB.dr (SB.here wb)) (fun hHeld => ?_)
      simp only [List.take_succ_cons, List.take_zero]
      refine wpAnyH_take (i := 0) (oi := { dst := some 43, op := Op.move (Operand.tmp 7), type := 24, pos := "law.go:113", after := #[], guard := none }) (v := ?vva_0) rfl (by kernel_rfl) (by kernel_rfl) (by kernel_rfl) (fun _ _ _ h => h) (Or.inl ⟨by rfl, ?yya_0⟩) hHeld ?_
      case vva_0 => exact .pointer (some ⟨p, 0, none⟩)
      case yya_0 =>
        intro W hS
        go_simp
      try simp only [Act.put, List.setIfInBounds_toArray, List.set_cons_zero, List.set_cons_succ]
      refine wpAnyH_take (i := 1) (oi := { dst := some 44, op := Op.fieldAddr 31 (Operand.tmp 10) 1, type := 0, pos := "law.go:113", after := #[], guard := none }) (v := ?vva_1) rfl (by kernel_rfl) (by kernel_rfl) (by kernel_rfl) (fun _ _ _ h => h) (Or.inl ⟨by rfl, ?yya_1⟩) hHeld ?_
      case vva_1 => exact .pointer (some ⟨g, 1, none⟩)
      case yya_1 =>
        intro W hS
        go_simp
      try simp only [Act.put, List.setIfInBounds_toArray, List.set_cons_zero, List.set_cons_succ]
      refine wpAnyH_take (i := 2) (oi := { dst := some 45, op := Op.load 3 (Operand.tmp 44), type := 3, pos := "law.go:113", after := #[{ on := 1, ground := Ground.data }], guard := none }) (v := ?vva_2) rfl (by kernel_rfl) (by kernel_rfl) (by kernel_rfl) (fun _ _ _ h => h) (Or.inl ⟨by rfl, ?yya_2⟩) hHeld ?_
      case vva_2 => exact .int .i64 c.place
      case yya_2 =>
        intro W hS
        have q0 := (hS.row HG.out.1).cell 1
        rw [HC1.out] at q0
        go_simp
      try simp only [Act.put, List.setIfInBounds_toArray, List.set_cons_zero, List.set_cons_succ]
      refine wpAnyH_take (i := 3) (oi := { dst := some 46, op := Op.fieldAddr 31 (Operand.tmp 10) 2, type := 0, pos := "law.go:113", after := #[], guard := none }) (v := ?vva_3) rfl (by kernel_rfl) (by kernel_rfl) (by kernel_rfl) (fun _ _ _ h => h) (Or.inl ⟨by rfl, ?yya_3⟩) hHeld ?_
      case vva_3 => exact .pointer (some ⟨g, 2, none⟩)
      case yya_3 =>
        intro W hS
        go_simp
      try simp only [Act.put, List.setIfInBounds_toArray, List.set_cons_zero, List.set_cons_succ]
      refine wpAnyH_take (i := 4) (oi := { dst := some 47, op := Op.load 5 (Operand.tmp 46), type := 5, pos := "law.go:113", after := #[{ on := 3, ground := Ground.data }], guard := none }) (v := ?vva_4) rfl (by kernel_rfl) (by kernel_rfl) (by kernel_rfl) (fun _ _ _ h => h) (Or.inl ⟨by rfl, ?yya_4⟩) hHeld ?_
      case vva_4 => exact .int .u8 c.byte.toNat
      case yya_4 =>
        intro W hS
        have q0 := (hS.row HG.out.1).cell 2
        rw [HC2.out] at q0
        go_simp
      try simp only [Act.put, List.setIfInBounds_toArray, List.set_cons_zero, List.set_cons_succ]
      refine wpAnyH_ready (rs := [5]) (by kernel_rfl) (by simp) (AllReadyH.cons (o := { dst := some 48, op := Op.call { callee := Callee.value (Operand.func 15), args := #[Operand.tmp 47], argTypes := #[5] }, type := 42, pos := "law.go:113", after := #[{ on := 4, ground := Ground.data }], guard := none }) rfl (fun K hK => ?_) AllReadyH.nil)
      go_simp
      go_at_call 15
      refine (fill_any c.byte).mono ?_
      rintro e sw1 ⟨rfl, sb1⟩
      have s1 := SB.next (SB.dr (SB.here wb)) sb1
      refine hK.out _ _ s1 (fun hHeld => ?_)
      clear hK K
      try simp only [Act.put, List.setIfInBounds_toArray, List.set_cons_zero, List.set_cons_succ]
      clear sb1
      refine wpAnyH_done (by kernel_rfl) ?_ _
      show wpList _ _ _ [_] _ _
      go_wp2_with fail
      obtain ⟨gl, gm, hv, Dm, hd⟩ := HG.out.2.1.below s1
      have hBn := HG.out.2.2.1
      have hn1 := HG.out.2.2.2.1
      refine (Write_any (L := fun k => k < w1.heap.size ∨ k = g) (fun k hk => Nat.lt_of_lt_of_le (by rcases hk with h | h <;> omega) (Below.size s1)) hd c.place (fillB c.byte) (fillB_len _) (HG.out.2.2.2.2).1 (HG.out.2.2.2.2).2).mono ?_
      rintro e w6 ⟨rfl, hd6, hk6⟩
      have HJ6 : Hid (DiskIs (fun k => k < w1.heap.size) w6 p ((l.take (j + 1)).foldl DS.acted (newDS 16)) ∧ Below w1.heap.size w1 w6) := Lib.hid ⟨by
        rw [acts_snoc _ _ _ (by have := HN.out; omega), HC.out.1]
        exact hd6.less (fun k hk => .inl hk), (hBn.trans (Below.mono s1 hBn.size)).trans (hk6.below (Nat.le_trans hBn.size (Below.size s1)) (fun k hk => .inl hk))⟩
      clear hd hBn hn1 hd6 hk6
      go_wp2_with fail
      refine NoPanic.normal ?_
      go_wp2_with fail
      go_roundw
      case rel => exact ⟨j + 1, by go_num, by omega, HJ6⟩
      case measure => simp [intOf]; omega
    · have hjN : j = N := by omega
      have hge : ¬ (j : Int) < (N : Int) := by omega
      obtain ⟨hdj, hBj⟩ := HJ.out
      obtain ⟨D0, hD0⟩ : ∃ D0, l.foldl DS.acted (newDS 16) = D0 := ⟨_, rfl⟩
      have htk : l.take j = l := List.take_of_length_le (by have := HN.out; omega)
      rw [htk, hD0] at hdj
      have hcalm := calm_acts l calm_new
      rw [hD0] at hcalm
      have hNl := HN.out
      have c0 : Calm D0 (List.replicate 16 z128) 40 40 := ⟨hcalm.lasts, hcalm.fuse, hcalm.down, by have := hcalm.hangs; omega, by have := hcalm.steps; omega⟩
      have H3 := Lib.hid (And.intro hdj (And.intro hBj c0))
      clear hdj hBj hD0 htk hcalm hNl c0 HJ hjN
      go_wp2_with fail
      obtain ⟨⟨gl, gm, hv, Dm, hd⟩, hB3, c0⟩ := H3.out
      refine (Sync_any (L := fun k => k < w1.heap.size) (fun k hk => Nat.lt_of_lt_of_le hk hB3.size) hd (by have := c0.steps; omega) (by have := c0.hangs; omega)).mono ?_
      rintro e w4 ⟨rfl, hd4, hk4⟩
      rw [c0.err]
      have hB4 := hB3.trans (hk4.below hB3.size (fun k h => h))
      have c4 := c0.synced
      have hl16 : D0.settled.length = 16 := by rw [settled_len, c0.lasts]; rfl
      obtain ⟨D1, hD1⟩ : ∃ D1, D0.synced = D1 := ⟨_, rfl⟩
      obtain ⟨L1, hL1⟩ : ∃ L1, D0.settled = L1 := ⟨_, rfl⟩
      rw [hD1] at hd4 c4
      rw [hL1] at c4 hl16
      have H4 := Lib.hid (And.intro hd4 (And.intro hB4 c4))
      have HL16 := Lib.hid hl16
      clear hd hB3 c0 hd4 hk4 hB4 c4 hD1 hL1 hl16 H3
      go_wp2_with fail
      refine ((callsIn_wide (n := 0)).1 (All_in 0 (some ⟨p, 0, none⟩) _)).mono ?_
      rintro e w5 ⟨rfl, rfl⟩
      go_wp2_with fail
      obtain ⟨⟨gl, gm, hv, Dm, hd⟩, hB4, c4⟩ := H4.out
      have bO := Boxed.new w4 33 (.slice none 0 0)
      have bN := Boxed.new (w4.alloc (.cells #[.slice none 0 0] 33)) 24 (.pointer (some ⟨p, 0, none⟩))
      have bO2 := bO.alloc (.cells #[.pointer (some ⟨p, 0, none⟩)] 24)
      have hSB : SB w4 ((w4.alloc (.cells #[.slice none 0 0] 33)).alloc (.cells #[.pointer (some ⟨p, 0, none⟩)] 24)) := SB.al (SB.al (SB.here w4) _) _
      have hd5 := (DiskIs.more (L' := fun k => k < w1.heap.size ∨ w4.heap.size ≤ k) ⟨gl, gm, hv, Dm, hd⟩ (fun g h => h)).below hSB
      have hd6 := hd.below hSB
      have hB5 := hB4.trans (Below.mono hSB hB4.size)
      have hsz : ((w4.alloc (.cells #[.slice none 0 0] 33)).alloc (.cells #[.pointer (some ⟨p, 0, none⟩)] 24)).heap.size = w4.heap.size + 2 := by rw [World.size_alloc, World.size_alloc]
      have hpl := hd.row.lt
      have hgl := hd.las.lt
      have hRB := (hB4.block _ HR.out.2.lt).trans HR.out.2
      rw [World.size_alloc] at bN
      have hb1 := HR.out.2.lt
      have hb4 := hB4.size
      obtain ⟨bx, hbx⟩ : ∃ bx, w4.heap.size = bx := ⟨_, rfl⟩
      rw [hbx] at bN bO2 hsz hpl hgl hb4 hd5
      rw [hbx]
      generalize (w4.alloc (.cells #[.slice none 0 0] 33)).alloc (.cells #[.pointer (some ⟨p, 0, none⟩)] 24) = wl at bN bO2 hd5 hd6 hB5 hsz ⊢
      clear bO hSB hRB hbx
      obtain ⟨row, las⟩ := And.intro hd6.row hd6.las
      have hgood := hd6.good
      have h8 : ∀ b ∈ L1, b.length = 128 := by have h := hgood.rows; rwa [c4.lasts] at h
      have hm : L1.length ≤ 4096 := by have h := hgood.most; rwa [c4.lasts] at h
      have hm16 : 16 ≤ L1.length := by have h := hgood.least; rwa [c4.lasts] at h
      rw [c4.lasts] at row las
      obtain ⟨i0, hi0, hz0, hz1, hz2⟩ := info_parts blk_info3
      have hInit : Coll (bx + 2) bx wl L1 [] wl := ⟨⟨_, bO2, World.ownsRow_nil _ _ _ _, trivial⟩, Keeps.refl _ _⟩
      have HD := Lib.hid (And.intro hd5 (And.intro hB5 c4))
      have HL := Lib.hid (And.intro h8 (And.intro hm hm16))
      have HP := Lib.hid (And.intro hpl (And.intro hgl (And.intro hb1 hb4)))
      clear hd5 hd6 hB5 c4 hgood hd hB4 H4
      rw [← wpIn_wide (n := 6)]
      refine' wpIn_rangeFunc_ownH rfl (by omega) (gf := 31) (lb := #[.pointer (some ⟨bx + 1, 0, none⟩)]) rfl trivial (enters_of Try.func31 (by kernel_rfl) rfl)
        (All_stops 5 (by omega) (bx + 1) p gl L1 _ h8 hm wl bN row las) keepsA_t (keepsA_b (by omega) (by omega) (by omega)) (Below.refl _ _) (fun _ => rfl)
        (Coll (bx + 2) bx wl L1) (fun _ _ _ => False) (coll_own L1 (Nat.le_refl _)) (fun _ _ _ _ _ hs _ _ => hs) hInit
        (fun x a' W => ∃ g, (a' = { tmps := #[Value.slice q0 N cap, Value.slice q2 N2 cap2, Value.int IntKind.i64 a2, undef, undef, undef, Value.pointer (some { block := w.heap.size, off := 0 }), Value.pointer (some { block := p, off := 0 }), Value.int IntKind.i64 0, undef, u10, Value.pointer (some { block := bx, off := 0 }), undef, Value.pointer (some ⟨g, 0, none⟩), undef, undef, undef, undef, undef, undef, undef, undef, undef, undef, undef, Value.bool true, Value.bool false, Value.slice q0 N cap, Value.int IntKind.i64 ↑N, Value.slice q2 N2 cap2, Value.int IntKind.i64 ↑N2, Value.int IntKind.i64 (↑N + ↑N2), Value.bool false, Value.tuple #[Value.pointer (some { block := p, off := 0 }), Value.int IntKind.i64 0], Value.tuple #[Value.pointer (some { block := p, off := 0 }), Value.int IntKind.i64 0], Value.pointer (some { block := p, off := 0 }), Value.int IntKind.i64 0, Value.slice q0 N cap, Value.int IntKind.i64 ↑N, Value.int IntKind.i64 ↑j, Value.bool false, u41, u42, u43, u44, u45, u46, u47, u48, u49, u50, Value.pointer (some { block := p, off := 0 }), Value.int IntKind.i64 0, Value.pointer (some { block := p, off := 0 }), Value.func (Fn.func 31) #[] #[Value.pointer (some { block := bx + 1, off := 0 })], Value.int IntKind.i64 (x.1 : Nat), Value.agg ((L1.getD x.1 []).map bv).toArray, undef, undef, undef, undef, undef, undef, undef, undef, undef, undef, undef, undef, undef, undef, undef, undef, undef, undef, undef, undef, undef, undef, undef, undef, undef, undef, undef, undef, undef, undef, undef, undef, undef, undef, undef, undef, undef, undef, undef, undef, undef, undef, undef, undef, undef, undef, undef, undef, undef, undef, undef, undef, undef, undef, undef, undef, undef, undef, undef, undef, undef, undef, undef, undef, undef, undef, undef, undef, undef, undef, undef, undef, undef, undef, undef, undef, undef, undef], defers := [] } ∧ bx + 2 ≤ g) ∧ Row W g 42 ((L1.getD x.1 []).map bv))
        (fun x a' => ax_own _) ?hassign ?hbody ?hdone ?hstop
      case hstop =>
        rintro D c pre W _ _ h _
        exact h.elim
      case hassign =>
        intro l' pre x W K hI hK
        unfold allArgs
        rw [show blkV (L1.getD x.1 []) = Value.agg ((L1.getD x.1 []).map bv).toArray from rfl]
        have hx8 : (L1.getD x.1 []).length = 128 := getD_len HL.out.1 x.2
        obtain ⟨hsb, hrow⟩ := boxed_blk W (L1.getD x.1 [])
        have hnew := Row.new W 42 zB
        have hone := blkV_one (L1.getD x.1 [])
        have hszA := blk_sizeA _ hx8
        have hzl : zB.toArray.size = ((L1.getD x.1 []).map bv).toArray.size := by rw [List.size_toArray, List.size_toArray, List.length_map, hx8, zB_len]
        have hI2 : Coll (bx + 2) bx wl L1 pre _ := own_below (coll_own (nl := bx + 2) (bx := bx) (w0 := wl) (B := bx + 2) L1 (by omega)) hI hsb
        have hW2 : bx + 2 ≤ W.heap.size := by have := hI.2.size; omega
        obtain ⟨cs, hcs⟩ : ∃ cs, ((L1.getD x.1 []).map bv).toArray = cs := ⟨_, rfl⟩
        have HX := Lib.hid (And.intro hsb (And.intro hrow (And.intro hI2 (And.intro hone (And.intro hszA (And.intro hzl hW2))))))
        have HCS := Lib.hid hcs
        have hz := (zero_of_info zB_info).1
        clear hsb hrow hone hszA hzl hI2 hW2
        rw [hcs] at HX ⊢
        clear hcs
        gi_wp2_with (refine wpIn_store_row 42 (.tmp 13) (.tmp 56) rfl W.heap.size cs rfl rfl 42 zB.toArray hnew HX.out.2.2.2.2.1 HX.out.2.2.2.2.2.1 HX.out.2.2.2.1 ?_)
        refine hK _ _ ((below_others HX.out.1).from _) (keepsA_of (L := fun _ => True) (Keeps.of_below HX.out.1 (fun _ h _ => h)) trivial trivial trivial ?_ ?_ ?_) HX.out.2.2.1 ⟨W.heap.size, ⟨?_, HX.out.2.2.2.2.2.2⟩, HX.out.2.1⟩
        · have := HX.out.2.2.2.2.2.2; omega
        · have := HX.out.2.2.2.2.2.2; omega
        · have := HX.out.2.2.2.2.2.2; omega
        · rw [HCS.out]
      case hbody =>
        rintro l' pre x a' W hl' hrec ⟨⟨v, hv, hown, _⟩, hk⟩ ⟨g, ⟨rfl, hg⟩, hrow⟩ hlt
        have hc := hv.cell
        have hx8 : (L1.getD x.1 []).length = 128 := getD_len HL.out.1 x.2
        have hgs := gath_snoc L1 pre x
        have hbs := bvs_one (L1.getD x.1 [])
        have hszC := blk_size _ hx8
        have hpl' : pre.length < 4096 := by have := HL.out.2.1; omega
        have hWs := hk.size
        have hWg : g < W.heap.size := hrow.lt
        obtain ⟨C, hC⟩ : ∃ C, (L1.getD x.1 []).map bv = C := ⟨_, rfl⟩
        have hCl : C.length = 128 := by rw [← hC, List.length_map, hx8]
        rw [hC] at hrow hgs hbs hszC
        rw [hC]
        have hrng := row_range hrow 0 C.length (by omega)
        rw [List.drop_zero, List.take_of_length_le (Nat.le_refl _)] at hrng
        have hld := run_loadAt_mid (P := Try.prog) W g 0 42 C _ hrng Try.underlying42 rfl hszC
        have hob := one_block C hCl W
        have HX := Lib.hid (And.intro hv (And.intro hown (And.intro hk (And.intro hgs (And.intro hbs hCl)))))
        clear hrow hgs hbs hszC hrng hC hx8 hlt
        gi_wp2_with (first
          | (refine wpIn_load_eq (g := g) rfl rfl hld ?_)
          | (refine wpIn_buildSlice_eq 33 1 _ rfl #[(0, .agg C.toArray)] _ _ rfl hob ?_)
          | (gi_at_builtin; refine wpListIn_append_own _ rfl (.tmp 57) (.tmp 59) 33 rfl (bx + 2) 42 i0 (.agg zB.toArray) 128 128 Try.underlying33 hi0 hz0 hz1 hz2 rfl (by decide) v _ _ rfl (HX.out.2.1.alloc _) ⟨W.heap.size, 0, none⟩ 1 1 C rfl (by rw [HX.out.2.2.2.2.2]) (World.news_of_block (cs := C.toArray) (t := 42) (fr := (0, 0)) (heap_alloc_new W _)) HX.out.2.2.2.2.1 (by unfold maxLen; omega) (by omega) (by rw [World.size_alloc]; omega) ?_; intro v' w6 hown' hgrow _; obtain ⟨g', cap', rfl⟩ := ownsRow_succ hown'; obtain ⟨hv1, hv2, hr2, hk2, hb2⟩ := box_append (L := fun k => k < bx + 2 ∧ k ≠ bx) HX.out.1 (by decide) HX.out.2.1 hown' hgrow (fun h => h.2 rfl) (fun k h => h.1); have hc1 := hv1.cell; have hf1 := hv1.frozen))
        have hWn := HX.out.2.2.1.size
        refine ⟨hk2.from _, keepsA_of hb2 ⟨by omega, by omega⟩ ⟨by omega, by omega⟩ ⟨by omega, by omega⟩ (by omega) (by omega) (by omega), ⟨⟨_, hv2, ?_, trivial⟩, HX.out.2.2.1.trans hb2⟩⟩
        rw [HX.out.2.2.2.1, List.length_append]
        exact hr2
      case hdone =>
        rintro D xs W hD hS ⟨⟨v, hv, hown, _⟩, hk⟩ hK
        have hxl : xs.length = L1.length := by have h := congrArg List.length hS; simpa using h
        rw [gath_all L1 xs hS, hxl] at hown
        obtain ⟨gw, cp, rfl, hgw, hgl2⟩ := hown.form (by have := HL.out.2.2; omega)
        have hdW : DiskIs (fun k => k < w1.heap.size ∨ bx ≤ k) W p D1 := (show DiskIs (fun k => k < w1.heap.size ∨ bx ≤ k) wl p D1 from HD.out.1).keeps hk (fun g h1 h2 => by omega)
        clear hS hxl
        have hDl : bx + 2 ≤ D := by omega
        have hb4 := HP.out.2.2.2
        have hBW : Below w1.heap.size w1 W := HD.out.2.1.trans (hk.below (Nat.le_trans hb4 (by omega)) (fun k h => ⟨by omega, by omega⟩))
        have hWD : D < W.heap.size := (Array.getElem?_eq_some_iff.1 hK).1
        have hWs := hk.size
        have hd6 : DiskIs (fun k => k < w1.heap.size ∨ k = bx ∨ k = gw ∨ k = D) W p D1 := hdW.less (fun k h => by omega)
        have HW := Lib.hid (And.intro hv (And.intro hown hK))
        have HN6 := Lib.hid (show (bx < W.heap.size ∧ gw < W.heap.size ∧ D < W.heap.size) ∧ w1.heap.size ≤ W.heap.size ∧ bx + 2 ≤ gw ∧ bx + 2 ≤ D ∧ gw ≠ D from ⟨⟨by omega, hgl2, hWD⟩, by omega, hgw, hDl, fun e => by
          subst e
          rcases hown.2 with ⟨h0, _⟩ | ⟨g', c', cu, h0, _, hh, _⟩
          · cases h0
          · injection h0 with h0
            injection h0 with h0
            injection h0 with h0
            subst h0
            rw [hK] at hh
            cases hh⟩)
        have H7 := Lib.hid (And.intro hd6 hBW)
        clear hv hown hK hdW hd6 hBW hWD hDl hb4 hWs hk hgw hgl2 hInit bO2 bN row las h8 hm hm16 hi0 hz0 hz1 hz2
        clear i0
        obtain ⟨sp, hwas⟩ := was_own HW.out.2.1
        have HWAS := Lib.hid hwas
        clear hwas
        obtain ⟨LP, hLP⟩ : ∃ LP : Nat → Prop, (fun k => k < w1.heap.size ∨ k = bx ∨ k = gw ∨ k = D) = LP := ⟨_, rfl⟩
        have HLP : Hid (LP bx ∧ LP gw ∧ LP D ∧ (∀ k, k < w1.heap.size → LP k) ∧ ∀ k, LP k → k < W.heap.size) := Lib.hid (by
          have hn := HN6.out
          rw [← hLP]
          exact ⟨.inr (.inl rfl), .inr (.inr (.inl rfl)), .inr (.inr (.inr rfl)), fun k h => .inl h, fun k h => by rcases h with h | h | h | h <;> omega⟩)
        rw [hLP] at H7
        have H12B := Lib.hid H7.out.2
        clear hLP
        go_wp2_with fail
        have hst : (D1.hangs.length : Int) = 0 := by rw [HD.out.2.2.empty]; rfl
        go_loopw [14, 63] (fun s i wr => ∃ j : Nat, s = .int .i64 (((l2.take j).foldl DS.acted D1).hangs.length : Nat) ∧ i = .int .i64 j ∧ j ≤ N2 ∧ Hid (DiskIs LP wr p ((l2.take j).foldl DS.acted D1) ∧ Keeps LP W wr)) (fun _ i _ => N2 - (intOf i).toNat)
        case atStart => exact ⟨0, by rw [List.take_zero]; show _ = Value.int .i64 (D1.hangs.length : Nat); rw [hst], rfl, Nat.zero_le _, Lib.hid ⟨H7.out.1, Keeps.refl _ _⟩⟩
        case round =>
          obtain ⟨j2, rfl, rfl, hj2, HJ⟩ := hrel
          clear hst
          by_cases hlt2 : j2 < N2
          · have hltI2 : (j2 : Int) < (N2 : Int) := by omega
            obtain ⟨hq, hcs⟩ := HQ2.out
            obtain ⟨rfl, hqb⟩ := hq (by have := HN2.out; omega)
            obtain ⟨hok, hrg⟩ := hcs j2 (by have := HN2.out; omega)
            obtain ⟨c, hc⟩ : ∃ c, l2.getD j2 default = c := ⟨_, rfl⟩
            rw [hc] at hok hrg
            have hB0 : Below w.heap.size w wr := (HR.out.1.trans (H12B.out.mono HR.out.1.size)).trans (HJ.out.2.below (by have := HN6.out; have := HP.out; omega) (fun k h => HLP.out.2.2.2.1 k (by have := HP.out; omega)))
            have hrw : wr.rangeAt qb2 (qo2 + j2 * 3) c.cells := fun k v hk => (hB0.cell (p := ⟨qb2, qo2 + j2 * 3 + k, none⟩) hqb).trans (hrg k v hk)
            obtain ⟨C, hC⟩ : ∃ C, c.cells = C := ⟨_, rfl⟩
            have hCi : (Try.prog.info? 31).map (·.size) = some C.length := by rw [← hC]; kernel_rfl
            have hCo : C.toArray.all (·.oneCell') = true := by rw [← hC]; exact acts_one c
            rw [hC] at hrw
            have HC := Lib.hid (And.intro hc (And.intro hok (And.intro hrw (And.intro hCi (And.intro hCo hC)))))
            have HS := Lib.hid (Row.new wr 31 [.int .i64 0, .int .i64 0, .int .u8 0])
            obtain ⟨Dj, hDj⟩ : ∃ Dj, (l2.take j2).foldl DS.acted D1 = Dj := ⟨_, rfl⟩
            obtain ⟨nd, hnd⟩ : ∃ nd, Dj.hangs.length = nd := ⟨_, rfl⟩
            have hcalm := calm_acts (l2.take j2) HD.out.2.2
            rw [hDj] at hcalm HJ
            have hlen2 : (l2.take j2).length ≤ 40 := by rw [List.length_take]; omega
            have hnd80 : nd ≤ 80 := by rw [← hnd]; have := hcalm.hangs; omega
            have hst100 : Dj.steps ≤ 100 := by have := hcalm.steps; omega
            have hwr := hcalm.writes c.place (fillB c.byte)
            rw [hnd] at hwr
            rw [hDj, hnd]
            have HDj := Lib.hid hDj
            have HND := Lib.hid (And.intro hnd80 (And.intro hst100 hnd))
            have ndI : (nd : Int) ≤ 80 := by omega
            have ndI0 : 0 ≤ (nd : Int) := by omega
            clear hq hcs hqb hok hrg hc hB0 hrw hC hCi hCo hcalm hlen2 hnd80 hst100 hDj hnd
            go_wp2_with (first
              | (with_reducible refine wpList_load_mid rfl 31 (.tmp 65) rfl qb2 (qo2 + j2 * 3) rfl C _ HC.out.2.2.1 Try.underlying31 rfl HC.out.2.2.2.1 ?_)
              | (refine wpList_store_row rfl 31 (.tmp 16) (.tmp 66) rfl wr.heap.size C.toArray rfl rfl 31 #[.int .i64 0, .int .i64 0, .int .u8 0] HS.out (by rw [List.size_toArray]; exact HC.out.2.2.2.1) (by rw [← HC.out.2.2.2.2.2]; rfl) HC.out.2.2.2.2.1 ?_))
            have HG0 : DiskIs (fun k => LP k ∨ k = wr.heap.size) wr p Dj := HJ.out.1.more (fun k hk => by
              rcases hk with h | h
              · exact .inl h
              · exact .inr (by omega))
            have hq := HS.out.put C
            have hb6 := below_setRow (B := wr.heap.size) ((Below.refl wr.heap.size wr).alloc (Nat.le_refl _) (.cells #[.int .i64 0, .int .i64 0, .int .u8 0] 31)) (Nat.le_refl _) C.toArray
            have hkW := HJ.out.2.trans (Keeps.of_below hb6 (fun k h _ => h))
            have hd6 := HG0.below hb6
            obtain ⟨g, hg⟩ : ∃ g, wr.heap.size = g := ⟨_, rfl⟩
            rw [hg] at hkW hd6 hq
            rw [hg]
            clear hb6 HG0 HS
            generalize (wr.alloc (Obj.cells #[Value.int IntKind.i64 0, Value.int IntKind.i64 0, Value.int IntKind.u8 0] 31)).setRow g C.toArray = wb at hq hd6 hkW ⊢
            have hLPb : ∀ k, LP k → k < wb.heap.size := fun k h => Nat.lt_of_lt_of_le (HLP.out.2.2.2.2 k h) hkW.size
            have HG := Lib.hid (And.intro hq (And.intro hd6 (And.intro hkW (And.intro hLPb (And.intro (show Dj.steps < 1000000000 by have := HND.out; omega) (show Dj.hangs.length < 1000000000 by have := HND.out; omega))))))
            have HC1 : Hid (C[1]? = some (.int .i64 c.place)) := Lib.hid (by rw [← HC.out.2.2.2.2.2]; rfl)
            have HC2 : Hid (C[2]? = some (.int .u8 c.byte.toNat)) := Lib.hid (by rw [← HC.out.2.2.2.2.2]; rfl)
            clear hq hd6 hkW hg hLPb
            rcases hwr with hwr | hwr
            · have HE := Lib.hid hwr
              clear hwr
              refine wp_region_noPanic ?_
              refine wp_region_held_drew (S := fun W' => Row W' g 31 C) (by kernel_rfl) (Row.drew HG.out.1) (fun hHeld => ?_)
              refine wpAnyH_take (i := 0) (oi := { dst := some 67, op := Op.move (Operand.tmp 7), type := 24, pos := "law.go:122", after := #[], guard := none }) (v := ?vvc0_0) rfl (by kernel_rfl) (by kernel_rfl) (by kernel_rfl) (fun _ _ _ h => h) (Or.inl ⟨by rfl, ?yyc0_0⟩) hHeld ?_
              case vvc0_0 => exact .pointer (some ⟨p, 0, none⟩)
              case yyc0_0 =>
                intro W hS
                go_simp
              try simp only [Act.put, List.setIfInBounds_toArray, List.set_cons_zero, List.set_cons_succ]
              refine wpAnyH_take (i := 1) (oi := { dst := some 68, op := Op.fieldAddr 31 (Operand.tmp 16) 1, type := 0, pos := "law.go:122", after := #[], guard := none }) (v := ?vvc0_1) rfl (by kernel_rfl) (by kernel_rfl) (by kernel_rfl) (fun _ _ _ h => h) (Or.inl ⟨by rfl, ?yyc0_1⟩) hHeld ?_
              case vvc0_1 => exact .pointer (some ⟨g, 1, none⟩)
              case yyc0_1 =>
                intro W hS
                go_simp
              try simp only [Act.put, List.setIfInBounds_toArray, List.set_cons_zero, List.set_cons_succ]
              refine wpAnyH_take (i := 2) (oi := { dst := some 69, op := Op.load 3 (Operand.tmp 68), type := 3, pos := "law.go:122", after := #[{ on := 1, ground := Ground.data }], guard := none }) (v := ?vvc0_2) rfl (by kernel_rfl) (by kernel_rfl) (by kernel_rfl) (fun _ _ _ h => h) (Or.inl ⟨by rfl, ?yyc0_2⟩) hHeld ?_
              case vvc0_2 => exact .int .i64 c.place
              case yyc0_2 =>
                intro W hS
                have q0 := Row.cell hS 1
                rw [HC1.out] at q0
                go_simp
              try simp only [Act.put, List.setIfInBounds_toArray, List.set_cons_zero, List.set_cons_succ]
              refine wpAnyH_take (i := 3) (oi := { dst := some 70, op := Op.fieldAddr 31 (Operand.tmp 16) 2, type := 0, pos := "law.go:122", after := #[], guard := none }) (v := ?vvc0_3) rfl (by kernel_rfl) (by kernel_rfl) (by kernel_rfl) (fun _ _ _ h => h) (Or.inl ⟨by rfl, ?yyc0_3⟩) hHeld ?_
              case vvc0_3 => exact .pointer (some ⟨g, 2, none⟩)
              case yyc0_3 =>
                intro W hS
                go_simp
              try simp only [Act.put, List.setIfInBounds_toArray, List.set_cons_zero, List.set_cons_succ]
              refine wpAnyH_take (i := 4) (oi := { dst := some 71, op := Op.load 5 (Operand.tmp 70), type := 5, pos := "law.go:122", after := #[{ on := 3, ground := Ground.data }], guard := none }) (v := ?vvc0_4) rfl (by kernel_rfl) (by kernel_rfl) (by kernel_rfl) (fun _ _ _ h => h) (Or.inl ⟨by rfl, ?yyc0_4⟩) hHeld ?_
              case vvc0_4 => exact .int .u8 c.byte.toNat
              case yyc0_4 =>
                intro W hS
                have q0 := Row.cell hS 2
                rw [HC2.out] at q0
                go_simp
              try simp only [Act.put, List.setIfInBounds_toArray, List.set_cons_zero, List.set_cons_succ]
              refine wpAnyH_ready (rs := [5]) (by kernel_rfl) (by simp) (AllReadyH.cons (o := { dst := some 72, op := Op.call { callee := Callee.value (Operand.func 15), args := #[Operand.tmp 71], argTypes := #[5] }, type := 42, pos := "law.go:122", after := #[{ on := 4, ground := Ground.data }], guard := none }) rfl (fun K hK => ?_) AllReadyH.nil)
              go_simp
              go_at_call 15
              refine (fill_any c.byte).mono ?_
              rintro e tw1 ⟨rfl, tb1⟩
              have sb1 : SB wb tw1 := SB.next (SB.dr (SB.here wb)) tb1
              have t1 : Row tw1 g 31 C := SB.row sb1 HG.out.1
              refine hK.out _ _ t1 (fun hHeld => ?_)
              clear hK K
              try simp only [Act.put, List.setIfInBounds_toArray, List.set_cons_zero, List.set_cons_succ]
              refine wpAnyH_ready (rs := [6]) (by kernel_rfl) (by simp) (AllReadyH.cons (o := { dst := some 73, op := Op.call { callee := Callee.value (Operand.func 14), args := #[Operand.tmp 67, Operand.tmp 69, Operand.tmp 72], argTypes := #[24, 3, 42] }, type := 25, pos := "law.go:122", after := #[{ on := 0, ground := Ground.data }, { on := 2, ground := Ground.data }, { on := 5, ground := Ground.data }, { on := 5, ground := Ground.chain }], guard := none }) rfl (fun K hK => ?_) AllReadyH.nil)
              go_simp
              go_at_call 14
              obtain ⟨gl9, gm9, hv9, Dm9, hd9⟩ := HG.out.2.1.below sb1
              refine (Write_any (L := fun k => LP k ∨ k = g) (fun k hk => Nat.lt_of_lt_of_le (by rcases hk with h | h; exact HG.out.2.2.2.1 k h; rw [h]; exact HG.out.1.lt) (Below.size sb1)) hd9 c.place (fillB c.byte) (fillB_len _) HG.out.2.2.2.2.1 HG.out.2.2.2.2.2).mono ?_
              rintro e tw2 ⟨rfl, td2, tk2⟩
              rw [HE.out.1]
              have t2 : Row tw2 g 31 C := (tk2.block g t1.lt (.inr rfl)).trans t1
              refine hK.out _ _ t2 (fun hHeld => ?_)
              clear hK K
              try simp only [Act.put, List.setIfInBounds_toArray, List.set_cons_zero, List.set_cons_succ]
              refine wpAnyH_take (i := 7) (oi := { dst := some 74, op := Op.binOp BinOp.eql 25 (Operand.tmp 73) (Operand.const (Value.int IntKind.i64 0)) 25, type := 4, pos := "law.go:122", after := #[{ on := 6, ground := Ground.data }], guard := none }) (v := ?vvc0_7) rfl (by kernel_rfl) (by kernel_rfl) (by kernel_rfl) (fun _ _ _ h => h) (Or.inl ⟨by rfl, ?yyc0_7⟩) hHeld ?_
              case vvc0_7 => exact .bool true
              case yyc0_7 =>
                intro W hS
                go_simp
              try simp only [Act.put, List.setIfInBounds_toArray, List.set_cons_zero, List.set_cons_succ]
              refine wpAnyH_done (by kernel_rfl) ?_ _
              refine NoPanic.normal ?_
              have tkW : Keeps LP W tw2 := (HG.out.2.2.1.trans (Keeps.of_below sb1 (fun k h _ => h))).trans (tk2.mono (fun k h => .inl h))
              have tdW : DiskIs LP tw2 p (Dj.written c.place (fillB c.byte)) := td2.less (fun k h => .inl h)
              clear hd9 tk2 td2 t1 t2 sb1 tb1 hHeld
              obtain ⟨DW, hDW⟩ : ∃ DW, Dj.written c.place (fillB c.byte) = DW := ⟨_, rfl⟩
              have hlW := HE.out.2
              rw [hDW] at tdW hlW
              have hnx : (l2.take (j2 + 1)).foldl DS.acted D1 = DW := by
                rw [acts_snoc _ _ _ (by have := HN2.out; omega), HC.out.1, HDj.out, ← hDW]
                rfl
              have HT := Lib.hid (And.intro tdW (And.intro tkW (And.intro hlW hnx)))
              clear tdW tkW hlW hDW hnx
              go_wp2_with fail
              obtain ⟨glF, gmF, hvF, DmF, hdF⟩ := HT.out.1
              refine (Hangs_any hdF (by have := HT.out.2.2.1; have := HND.out; omega)).mono ?_
              rintro e w' ⟨rfl, rfl⟩
              rw [HT.out.2.2.1]
              clear hdF
              rw [show ((nd + 1 : Nat) : Int) * 128 = ((nd : Int) + 1) * 128 by omega]
              go_wp2_with fail
              go_roundw
              case rel => exact ⟨j2 + 1, by rw [HT.out.2.2.2, HT.out.2.2.1] <;> go_num, by go_num, by omega, Lib.hid ⟨by rw [HT.out.2.2.2]; exact HT.out.1, HT.out.2.1⟩⟩
              case measure => simp [intOf]; omega
            · have HE : Hid (Dj.writeErr c.place = 2 ∧ (Dj.written c.place (fillB c.byte)).hangs.length = nd) := Lib.hid ⟨hwr.1, by rw [hwr.2]; exact HND.out.2.2⟩
              clear hwr
              refine wp_region_noPanic ?_
              refine wp_region_held_drew (S := fun W' => Row W' g 31 C) (by kernel_rfl) (Row.drew HG.out.1) (fun hHeld => ?_)
              refine wpAnyH_take (i := 0) (oi := { dst := some 67, op := Op.move (Operand.tmp 7), type := 24, pos := "law.go:122", after := #[], guard := none }) (v := ?vvc2_0) rfl (by kernel_rfl) (by kernel_rfl) (by kernel_rfl) (fun _ _ _ h => h) (Or.inl ⟨by rfl, ?yyc2_0⟩) hHeld ?_
              case vvc2_0 => exact .pointer (some ⟨p, 0, none⟩)
              case yyc2_0 =>
                intro W hS
                go_simp
              try simp only [Act.put, List.setIfInBounds_toArray, List.set_cons_zero, List.set_cons_succ]
              refine wpAnyH_take (i := 1) (oi := { dst := some 68, op := Op.fieldAddr 31 (Operand.tmp 16) 1, type := 0, pos := "law.go:122", after := #[], guard := none }) (v := ?vvc2_1) rfl (by kernel_rfl) (by kernel_rfl) (by kernel_rfl) (fun _ _ _ h => h) (Or.inl ⟨by rfl, ?yyc2_1⟩) hHeld ?_
              case vvc2_1 => exact .pointer (some ⟨g, 1, none⟩)
              case yyc2_1 =>
                intro W hS
                go_simp
              try simp only [Act.put, List.setIfInBounds_toArray, List.set_cons_zero, List.set_cons_succ]
              refine wpAnyH_take (i := 2) (oi := { dst := some 69, op := Op.load 3 (Operand.tmp 68), type := 3, pos := "law.go:122", after := #[{ on := 1, ground := Ground.data }], guard := none }) (v := ?vvc2_2) rfl (by kernel_rfl) (by kernel_rfl) (by kernel_rfl) (fun _ _ _ h => h) (Or.inl ⟨by rfl, ?yyc2_2⟩) hHeld ?_
              case vvc2_2 => exact .int .i64 c.place
              case yyc2_2 =>
                intro W hS
                have q0 := Row.cell hS 1
                rw [HC1.out] at q0
                go_simp
              try simp only [Act.put, List.setIfInBounds_toArray, List.set_cons_zero, List.set_cons_succ]
              refine wpAnyH_take (i := 3) (oi := { dst := some 70, op := Op.fieldAddr 31 (Operand.tmp 16) 2, type := 0, pos := "law.go:122", after := #[], guard := none }) (v := ?vvc2_3) rfl (by kernel_rfl) (by kernel_rfl) (by kernel_rfl) (fun _ _ _ h => h) (Or.inl ⟨by rfl, ?yyc2_3⟩) hHeld ?_
              case vvc2_3 => exact .pointer (some ⟨g, 2, none⟩)
              case yyc2_3 =>
                intro W hS
                go_simp
              try simp only [Act.put, List.setIfInBounds_toArray, List.set_cons_zero, List.set_cons_succ]
              refine wpAnyH_take (i := 4) (oi := { dst := some 71, op := Op.load 5 (Operand.tmp 70), type := 5, pos := "law.go:122", after := #[{ on := 3, ground := Ground.data }], guard := none }) (v := ?vvc2_4) rfl (by kernel_rfl) (by kernel_rfl) (by kernel_rfl) (fun _ _ _ h => h) (Or.inl ⟨by rfl, ?yyc2_4⟩) hHeld ?_
              case vvc2_4 => exact .int .u8 c.byte.toNat
              case yyc2_4 =>
                intro W hS
                have q0 := Row.cell hS 2
                rw [HC2.out] at q0
                go_simp
              try simp only [Act.put, List.setIfInBounds_toArray, List.set_cons_zero, List.set_cons_succ]
              refine wpAnyH_ready (rs := [5]) (by kernel_rfl) (by simp) (AllReadyH.cons (o := { dst := some 72, op := Op.call { callee := Callee.value (Operand.func 15), args := #[Operand.tmp 71], argTypes := #[5] }, type := 42, pos := "law.go:122", after := #[{ on := 4, ground := Ground.data }], guard := none }) rfl (fun K hK => ?_) AllReadyH.nil)
              go_simp
              go_at_call 15
              refine (fill_any c.byte).mono ?_
              rintro e tw1 ⟨rfl, tb1⟩
              have sb1 : SB wb tw1 := SB.next (SB.dr (SB.here wb)) tb1
              have t1 : Row tw1 g 31 C := SB.row sb1 HG.out.1
              refine hK.out _ _ t1 (fun hHeld => ?_)
              clear hK K
              try simp only [Act.put, List.setIfInBounds_toArray, List.set_cons_zero, List.set_cons_succ]
              refine wpAnyH_ready (rs := [6]) (by kernel_rfl) (by simp) (AllReadyH.cons (o := { dst := some 73, op := Op.call { callee := Callee.value (Operand.func 14), args := #[Operand.tmp 67, Operand.tmp 69, Operand.tmp 72], argTypes := #[24, 3, 42] }, type := 25, pos := "law.go:122", after := #[{ on := 0, ground := Ground.data }, { on := 2, ground := Ground.data }, { on := 5, ground := Ground.data }, { on := 5, ground := Ground.chain }], guard := none }) rfl (fun K hK => ?_) AllReadyH.nil)
              go_simp
              go_at_call 14
              obtain ⟨gl9, gm9, hv9, Dm9, hd9⟩ := HG.out.2.1.below sb1
              refine (Write_any (L := fun k => LP k ∨ k = g) (fun k hk => Nat.lt_of_lt_of_le (by rcases hk with h | h; exact HG.out.2.2.2.1 k h; rw [h]; exact HG.out.1.lt) (Below.size sb1)) hd9 c.place (fillB c.byte) (fillB_len _) HG.out.2.2.2.2.1 HG.out.2.2.2.2.2).mono ?_
              rintro e tw2 ⟨rfl, td2, tk2⟩
              rw [HE.out.1]
              have t2 : Row tw2 g 31 C := (tk2.block g t1.lt (.inr rfl)).trans t1
              refine hK.out _ _ t2 (fun hHeld => ?_)
              clear hK K
              try simp only [Act.put, List.setIfInBounds_toArray, List.set_cons_zero, List.set_cons_succ]
              refine wpAnyH_take (i := 7) (oi := { dst := some 74, op := Op.binOp BinOp.eql 25 (Operand.tmp 73) (Operand.const (Value.int IntKind.i64 0)) 25, type := 4, pos := "law.go:122", after := #[{ on := 6, ground := Ground.data }], guard := none }) (v := ?vvc2_7) rfl (by kernel_rfl) (by kernel_rfl) (by kernel_rfl) (fun _ _ _ h => h) (Or.inl ⟨by rfl, ?yyc2_7⟩) hHeld ?_
              case vvc2_7 => exact .bool false
              case yyc2_7 =>
                intro W hS
                go_simp
              try simp only [Act.put, List.setIfInBounds_toArray, List.set_cons_zero, List.set_cons_succ]
              refine wpAnyH_done (by kernel_rfl) ?_ _
              refine NoPanic.normal ?_
              have tkW : Keeps LP W tw2 := (HG.out.2.2.1.trans (Keeps.of_below sb1 (fun k h _ => h))).trans (tk2.mono (fun k h => .inl h))
              have tdW : DiskIs LP tw2 p (Dj.written c.place (fillB c.byte)) := td2.less (fun k h => .inl h)
              clear hd9 tk2 td2 t1 t2 sb1 tb1 hHeld
              obtain ⟨DW, hDW⟩ : ∃ DW, Dj.written c.place (fillB c.byte) = DW := ⟨_, rfl⟩
              have hlW := HE.out.2
              rw [hDW] at tdW hlW
              have hnx : (l2.take (j2 + 1)).foldl DS.acted D1 = DW := by
                rw [acts_snoc _ _ _ (by have := HN2.out; omega), HC.out.1, HDj.out, ← hDW]
                rfl
              have HT := Lib.hid (And.intro tdW (And.intro tkW (And.intro hlW hnx)))
              clear tdW tkW hlW hDW hnx
              go_wp2_with fail
              obtain ⟨glF, gmF, hvF, DmF, hdF⟩ := HT.out.1
              refine (Hangs_any hdF (by have := HT.out.2.2.1; have := HND.out; omega)).mono ?_
              rintro e w' ⟨rfl, rfl⟩
              rw [HT.out.2.2.1]
              clear hdF
              go_wp2_with fail
              go_roundw
              case rel => exact ⟨j2 + 1, by rw [HT.out.2.2.2, HT.out.2.2.1] <;> go_num, by go_num, by omega, Lib.hid ⟨by rw [HT.out.2.2.2]; exact HT.out.1, HT.out.2.1⟩⟩
              case measure => simp [intOf]; omega
          · have hjN2 : j2 = N2 := by omega
            have hge2 : ¬ (j2 : Int) < (N2 : Int) := by omega
            obtain ⟨Dk, hDk⟩ : ∃ Dk, l2.foldl DS.acted D1 = Dk := ⟨_, rfl⟩
            have htk : l2.take j2 = l2 := List.take_of_length_le (by have := HN2.out; omega)
            have hcalm := calm_acts l2 HD.out.2.2
            have hNl := HN2.out
            rw [htk, hDk] at HJ
            rw [hDk] at hcalm
            rw [htk, hDk]
            have ck : Calm Dk L1 80 200 := ⟨hcalm.lasts, hcalm.fuse, hcalm.down, by have := hcalm.hangs; omega, by have := hcalm.steps; omega⟩
            obtain ⟨nd, hnd⟩ : ∃ nd, Dk.hangs.length = nd := ⟨_, rfl⟩
            have hnd80 : nd ≤ 80 := by rw [← hnd]; exact ck.hangs
            rw [hnd]
            have hck16 : Dk.lasts.length = 16 := by rw [ck.lasts]; exact HL16.out
            obtain ⟨S, hS⟩ : ∃ S, Dk.settled = S := ⟨_, rfl⟩
            have hS16 : S.length = 16 := by rw [← hS, settled_len, hck16]
            have hS8 : ∀ b ∈ S, b.length = 128 := by
              obtain ⟨_, _, _, _, hh⟩ := HJ.out.1
              rw [← hS]; exact settled_rows hh.good
            have hrd : ∀ i, i < 16 → Dk.read (i : Nat) = S.getD i [] ∧ Dk.fault (i : Nat) = 0 := fun i hi => by
              refine ⟨by rw [← hS]; exact read_settled ck.down (by omega), ?_⟩
              rw [ck.fault, HL16.out, if_pos (by omega)]
            have HJ3 := Lib.hid (And.intro HJ.out.1 (And.intro HJ.out.2 ck))
            have HS := Lib.hid (And.intro hS (And.intro hS16 (And.intro hS8 hrd)))
            have HND := Lib.hid (And.intro hnd hnd80)
            have ndI : (nd : Int) ≤ 80 := by omega
            have ndI0 : 0 ≤ (nd : Int) := by omega
            clear hDk htk hcalm hNl hck16 hS hS16 hS8 hrd ck hnd hnd80 HJ hjN2
            obtain ⟨i0, hi0, hz0, hz1, hz2⟩ := info_parts blk_info3
            go_wp2_with fail
            generalize wr = wo at HJ3 ⊢
            obtain ⟨nl, hnl⟩ : ∃ nl, wo.heap.size = nl := ⟨_, rfl⟩
            go_loopw [17, 83] (fun v i wq => ∃ j3 : Nat, i = .int .i64 j3 ∧ j3 ≤ 16 ∧ (∃ u c, v = .slice u j3 c) ∧ Hid (wq.ownsRow nl 42 128 v j3 ((S.take j3).flatten.map bv) ∧ Below nl wo wq)) (fun _ i _ => 16 - (intOf i).toNat)
            case atStart => exact ⟨0, rfl, by omega, ⟨none, 0, rfl⟩, Lib.hid ⟨World.ownsRow_nil _ _ _ _, Below.refl _ _⟩⟩
            case round =>
              obtain ⟨j3, rfl, hj3, ⟨u, cv, rfl⟩, HO⟩ := hrel
              by_cases hlt3 : j3 < 16
              · have hltI3 : (j3 : Int) < 16 := by omega
                have hz := (zero_of_info zB_info).1
                go_wp2_with fail
                obtain ⟨glR, gmR, hvR, DmR, hdR⟩ := HJ3.out.1.below (hnl ▸ HO.out.2)
                refine (Read_any hdR (j3 : Nat)).mono ?_
                rintro e w4' ⟨rfl, hb4⟩
                obtain ⟨hr1, hr2⟩ := HS.out.2.2.2 j3 hlt3
                rw [hr1, hr2]
                have hx8 : (S.getD j3 []).length = 128 := getD_len HS.out.2.2.1 (by have := HS.out.2.1; omega)
                have hbs := bvs_one (S.getD j3 [])
                have hszC := blk_size _ hx8
                have hoC := blkV_one (S.getD j3 [])
                have hsn : (S.take (j3 + 1)).flatten.map bv = (S.take j3).flatten.map bv ++ (S.getD j3 []).map bv := by
                  have hj : j3 < S.length := by have := HS.out.2.1; omega
                  rw [List.take_add_one, List.getElem?_eq_getElem hj, List.flatten_append, List.map_append, List.getD_eq_getElem?_getD, List.getElem?_eq_getElem hj]
                  simp
                have hbv : blkV (S.getD j3 []) = .agg ((S.getD j3 []).map bv).toArray := rfl
                obtain ⟨C, hC⟩ : ∃ C, (S.getD j3 []).map bv = C := ⟨_, rfl⟩
                have hCl : C.length = 128 := by rw [← hC, List.length_map, hx8]
                rw [hC] at hbs hszC hsn hoC hbv
                rw [hbv]
                have hSB4 : SB wo w4' := by
                  have h := HO.out.2
                  rw [← hnl] at h
                  exact SB.next h hb4
                have hown4 := own_kept HO.out.1 (fun g hg => hb4.block g (own_blk_lt HO.out.1 hg))
                have hnew := Row.new w4' 42 zB
                have hsb5 := below_setRow (B := w4'.heap.size) (SB.al (SB.here w4') (.cells zB.toArray 42)) (Nat.le_refl _) C.toArray
                have hrow5 := hnew.put C
                have hown5 := own_kept hown4 (fun g hg => hsb5.block g (own_blk_lt hown4 hg))
                have hob := one_block C hCl
                have hrng5 : ((w4'.alloc (.cells zB.toArray 42)).setRow w4'.heap.size C.toArray).rangeAt w4'.heap.size 0 C := by
                  have h := row_range hrow5 0 C.length (by omega)
                  rwa [List.drop_zero, List.take_of_length_le (Nat.le_refl _)] at h
                have hs5 : SB wo ((w4'.alloc (.cells zB.toArray 42)).setRow w4'.heap.size C.toArray) := SB.next hSB4 hsb5
                have hN5 : (((w4'.alloc (.cells zB.toArray 42)).setRow w4'.heap.size C.toArray).alloc (.cells C.toArray 42)).heap[w4'.heap.size + 1]? = some (.cells C.toArray 42) := by
                  have h := heap_alloc_new ((w4'.alloc (.cells zB.toArray 42)).setRow w4'.heap.size C.toArray) (.cells C.toArray 42)
                  have hz5 : ((w4'.alloc (.cells zB.toArray 42)).setRow w4'.heap.size C.toArray).heap.size = w4'.heap.size + 1 := by simp [World.setRow, World.alloc, -World.alloc_eq]
                  rwa [hz5] at h
                have HN5 := Lib.hid hN5
                clear hN5
                have HX := Lib.hid (And.intro hown5 (And.intro hrng5 (And.intro hbs (And.intro hszC (And.intro hsn (And.intro hoC (And.intro hCl hs5)))))))
                clear hCl hown4 hown5 hrng5 hbs hszC hsn hoC hs5 hSB4 hsb5 hrow5 hr1 hr2 hx8 hbv hC hb4 hdR
                go_wp2_with (first
                  | (refine wpList_store_row rfl 42 (.tmp 19) (.tmp 90) rfl w4'.heap.size C.toArray rfl rfl 42 zB.toArray hnew (by rw [List.size_toArray]; exact HX.out.2.2.2.1) (by rw [List.size_toArray, List.size_toArray, HX.out.2.2.2.2.2.2.1, zB_len]) HX.out.2.2.2.2.2.1 ?_)
                  | (refine wpList_load_mid rfl 42 (.tmp 19) rfl w4'.heap.size 0 rfl C _ HX.out.2.1 Try.underlying42 rfl HX.out.2.2.2.1 ?_)
                  | (refine wpList_buildSlice_run rfl 33 1 _ rfl #[(0, .agg C.toArray)] _ _ rfl (hob _) ?_)
                  | (at_builtin; refine wpList_append_own _ rfl (.tmp 92) (.tmp 94) 33 rfl nl 42 i0 (.agg zB.toArray) 128 128 Try.underlying33 hi0 hz0 hz1 hz2 rfl (by decide) (.slice u j3 cv) _ _ rfl (HX.out.1.alloc _) _ 1 1 C rfl (by rw [HX.out.2.2.2.2.2.2.1]) (World.news_of_block (cs := C.toArray) (t := 42) (fr := (0, 0)) HN5.out) HX.out.2.2.1 (by unfold maxLen; omega) (by omega) (by rw [World.size_alloc]; have := (Below.size HX.out.2.2.2.2.2.2.2); omega) ?_; intro v' w6 hown' hgrow _; obtain ⟨g', cap', rfl⟩ := ownsRow_succ hown'))
                have hB6 : Below nl wo w6 := by
                  have h5 := HX.out.2.2.2.2.2.2.2
                  have h5s := Below.size h5
                  have h5' : Below nl wo _ := (show Below wo.heap.size wo _ from h5).mono (by omega)
                  refine (h5'.alloc (by omega) (.cells C.toArray 42)).grown hgrow (by rw [World.size_alloc]; omega) (fun q eq => ?_)
                  rcases HX.out.1.2 with ⟨h0, _⟩ | ⟨g0, c0, cu0, h0, hb0, _⟩
                  · rw [h0] at eq; cases eq
                  · rw [h0] at eq
                    injection eq with eq
                    exact eq ▸ hb0
                have hown6 : w6.ownsRow nl 42 128 (.slice (some ⟨g', 0, none⟩) (j3 + 1) cap') (j3 + 1) ((S.take (j3 + 1)).flatten.map bv) := by rw [HX.out.2.2.2.2.1]; exact hown'
                have HZ := Lib.hid (And.intro hown6 hB6)
                clear hown6 hB6 hown' hgrow
                go_roundw
                case rel => exact ⟨j3 + 1, by go_num, by omega, ⟨_, _, rfl⟩, HZ⟩
                case measure => simp [intOf]; omega
              · have hj16 : j3 = 16 := by omega
                have hge16 : ¬ (j3 : Int) < 16 := by omega
                obtain ⟨hown, hBn⟩ := HO.out
                rw [hj16, List.take_of_length_le (by rw [HS.out.2.1]; omega)] at hown
                rw [← hnl] at hBn
                obtain ⟨gn, cn, hgn, hgn2, hgn3⟩ := hown.form (by omega)
                injection hgn with hu _ hcn
                subst hu
                subst hcn
                obtain ⟨spn, hwn⟩ := was_own hown
                have hn6 := HN6.out
                have hkr : Keeps LP W wr := HJ3.out.2.1.trans (Keeps.of_below hBn (fun k h _ => h))
                have hbox : Boxed wr bx 33 (.slice (some ⟨gw, 0, none⟩) L1.length cp) := (hkr.block bx hn6.1.1 HLP.out.1).trans HW.out.1
                have hwr' : WasAt wr gw L1 sp := (hkr.block gw hn6.1.2.1 HLP.out.2.1).trans HWAS.out
                have hKr : wr.heap[D]? = some (.deferred (some [])) := (hkr.block D hn6.1.2.2 HLP.out.2.2.1).trans HW.out.2.2
                have hdr : DiskIs (fun k => LP k ∨ nl ≤ k) wr p Dk := (HJ3.out.1.more (L' := fun k => LP k ∨ nl ≤ k) (fun g h => by rw [hnl]; exact h)).below hBn
                have hWr := hkr.size
                have hLr : ∀ k, LP k → k < nl := fun k h => by have h1 := HLP.out.2.2.2.2 k h; have h2 := HJ3.out.2.1.size; omega
                have hnlr : nl ≤ wr.heap.size := by rw [← hnl]; exact hBn.size
                have hbr := hbox.cell
                have HA := Lib.hid (And.intro hbox (And.intro hwr' (And.intro hwn (And.intro hKr (And.intro hdr (And.intro hkr (And.intro hLr (And.intro hnlr (And.intro hgn2 hgn3)))))))))
                clear hown hBn hn6 hkr hbox hwr' hwn hKr hdr hWr hLr hnlr hgn2 hgn3 HO hi0 hz0 hz1 hz2
                clear i0
                obtain ⟨b21, hb21⟩ : ∃ b21, wr.heap.size = b21 := ⟨_, rfl⟩
                have HB21 := Lib.hid hb21
                go_wp2_with fail
                have bB := Boxed.new wr 33 (.slice (some ⟨gw, 0, none⟩) L1.length cp)
                have hSA : SB wr (wr.alloc (.cells #[.slice (some ⟨gw, 0, none⟩) L1.length cp] 33)) := SB.al (SB.here wr) _
                have hszA : (wr.alloc (.cells #[.slice (some ⟨gw, 0, none⟩) L1.length cp] 33)).heap.size = b21 + 1 := by rw [World.size_alloc, hb21]
                rw [hb21] at bB
                generalize wr.alloc (.cells #[.slice (some ⟨gw, 0, none⟩) L1.length cp] 33) = wA at bB hSA hszA ⊢
                have hc21 := bB.cell
                have hf21 := bB.frozen
                have hSB : SB wr (wA.setCell ⟨b21, 0, none⟩ (.slice (some ⟨gn, 0, none⟩) 16 cv)) := Below.setCell (p := ⟨b21, 0, none⟩) hSA (by show wr.heap.size ≤ b21; omega) _
                have bB2 := bB.set (.slice (some ⟨gn, 0, none⟩) 16 cv)
                have hszB : (wA.setCell ⟨b21, 0, none⟩ (.slice (some ⟨gn, 0, none⟩) 16 cv)).heap.size = b21 + 1 := by rw [← hszA]; simp [World.setCell]
                have HAB := Lib.hid (And.intro bB (And.intro hSA (And.intro hszA (And.intro bB2 (And.intro hSB hszB)))))
                have HHG : Hid (∀ W', SB wr W' → Calls Try.prog 18 #[.pointer (some ⟨p, 0, none⟩)] W' fun e w' => e = .returned (.int .i64 ((nd : Int) * 128)) ∧ W' = w') := Lib.hid (fun W' h => by
                  obtain ⟨g1, g2, g3, g4, hh⟩ := HA.out.2.2.2.2.1.below h
                  have h2 := Hangs_any hh (by have := HND.out; omega)
                  rw [HND.out.1] at h2
                  exact h2)
                clear bB hSA hszA hSB bB2 hszB hb21
                refine (HHG.out _ HAB.out.2.1).mono ?_
                rintro e w' ⟨rfl, rfl⟩
                by_cases hge : (nd : Int) * 128 ≤ a2
                · by_cases hle : a2 ≤ 0
                  · go_wp2_with fail
                    rw [HAB.out.2.2.1]
                    have bW := Boxed.new (wA.setCell ⟨b21, 0, none⟩ (.slice (some ⟨gn, 0, none⟩) 16 cv)) 4 (.bool true)
                    have hSF : SB wr ((wA.setCell ⟨b21, 0, none⟩ (.slice (some ⟨gn, 0, none⟩) 16 cv)).alloc (.cells #[.bool true] 4)) := SB.al HAB.out.2.2.2.2.1 _
                    have hszF : ((wA.setCell ⟨b21, 0, none⟩ (.slice (some ⟨gn, 0, none⟩) 16 cv)).alloc (.cells #[.bool true] 4)).heap.size = b21 + 2 := by rw [World.size_alloc, HAB.out.2.2.2.2.2]
                    have hbF := Boxed.alloc HAB.out.2.2.2.1 (.cells #[.bool true] 4)
                    rw [HAB.out.2.2.2.2.2] at bW
                    generalize (wA.setCell ⟨b21, 0, none⟩ (.slice (some ⟨gn, 0, none⟩) 16 cv)).alloc (.cells #[.bool true] 4) = wF at bW hSF hszF hbF ⊢
                    have hA := HA.out
                    have hb21 := HB21.out
                    have hn6 := HN6.out
                    have hgXr : gn < wr.heap.size := by have := hA.2.2.2.2.2.1.size; omega
                    have hwF : WasAt wF gn S spn := (hSF.block gn hgXr).trans HA.out.2.2.1
                    have hKF : wF.heap[D]? = some (.deferred (some [])) := (hSF.block D (by have := hA.2.2.2.2.2.1.size; omega)).trans hA.2.2.2.1
                    have hkF : Keeps LP W wF := hA.2.2.2.2.2.1.trans (Keeps.of_below hSF (fun k h _ => h))
                    obtain ⟨LQ, hLQ⟩ : ∃ LQ : Nat → Prop, (fun k => LP k ∨ k = gn ∨ k = b21 ∨ k = b21 + 1) = LQ := ⟨_, rfl⟩
                    have hdF : DiskIs LQ wF p Dk := (hA.2.2.2.2.1.below hSF).less (fun k h => by
                      rw [← hLQ] at h
                      rcases h with h | h | h | h
                      · exact .inl h
                      · exact .inr (by omega)
                      · exact .inr (by have := hA.2.2.2.2.2.2.2.1; omega)
                      · exact .inr (by have := hA.2.2.2.2.2.2.2.1; omega))
                    have hLQ2 : LQ gn ∧ LQ b21 ∧ LQ (b21 + 1) ∧ (∀ k, LP k → LQ k) ∧ ∀ k, LQ k → k < wF.heap.size := by
                      rw [← hLQ]
                      exact ⟨.inr (.inl rfl), .inr (.inr (.inl rfl)), .inr (.inr (.inr rfl)), fun k h => .inl h, fun k h => by
                        rcases h with h | h | h | h
                        · have := HLP.out.2.2.2.2 k h; have := hkF.size; omega
                        · omega
                        · omega
                        · omega⟩
                    obtain ⟨RK, hRK⟩ : ∃ RK, kept Dk.hangs L1 a2 = RK := ⟨_, rfl⟩
                    have hRX : S = RK := by
                      obtain ⟨_, _, _, _, hh⟩ := HJ3.out.1
                      rw [← hRK, kept_full Dk.hangs hh.good.blks L1 a2 HL.out.1 (by rw [HND.out.1]; omega), ← HS.out.1, settled_all, HJ3.out.2.2.lasts]
                    have hRXl : S.length = 16 := HS.out.2.1
                    have cF := HJ3.out.2.2.crashed a2
                    obtain ⟨D5, hD5⟩ : ∃ D5, Dk.crashed a2 = D5 := ⟨_, rfl⟩
                    rw [hRK, hD5] at cF
                    obtain ⟨glF, gmF, hvF, DmF, hdF'⟩ := hdF
                    refine (Crash_any (L := LQ) hLQ2.2.2.2.2 hdF' a2 HI.out.1 HI.out.2 (by have := HND.out; omega)).mono ?_
                    rintro e w10 ⟨rfl, hd10, hk10⟩
                    rw [hD5] at hd10
                    have hb10 : Boxed w10 b21 33 (.slice (some ⟨gn, 0, none⟩) 16 cv) := (hk10.block b21 (by omega) hLQ2.2.1).trans hbF
                    have hbo10 : Boxed w10 (b21 + 1) 4 (.bool true) := (hk10.block (b21 + 1) (by omega) hLQ2.2.2.1).trans bW
                    have hw10 : WasAt w10 gn S spn := (hk10.block gn (by omega) hLQ2.1).trans hwF
                    have hK10 : w10.heap[D]? = some (.deferred (some [])) := (hk10.block D (by have := hkF.size; omega) (hLQ2.2.2.2.1 D HLP.out.2.2.1)).trans hKF
                    have hk10P : Keeps LP W w10 := hkF.trans (hk10.mono hLQ2.2.2.2.1)
                    have hs10 : b21 + 2 ≤ w10.heap.size := by have := hk10.size; omega
                    have hgX10 : gn < w10.heap.size := by have := hk10.size; omega
                    have H13 := Lib.hid (And.intro hd10 (And.intro hb10 (And.intro hbo10 (And.intro hw10 (And.intro hK10 (And.intro hk10P (And.intro cF (And.intro hs10 hgX10))))))))
                    have HRX := Lib.hid (And.intro hRX hRXl)
                    clear bW hSF hszF hbF hA hb21 hn6 hgXr hwF hKF hkF hdF' hLQ2 hLQ hRK hRX hRXl cF hD5 hd10 hk10 hb10 hbo10 hw10 hK10 hk10P hs10 hgX10
                    go_wp2_with fail
                    refine ((callsIn_wide (n := 0)).1 (All_in 0 (some ⟨p, 0, none⟩) _)).mono ?_
                    rintro e w11 ⟨rfl, rfl⟩
                    go_wp2_with fail
                    obtain ⟨⟨glA, gmA, hvA, DmA, hdA⟩, hb10, hbo10, hw10, hK10, hk10P, c10, hs10, hgX10⟩ := H13.out
                    have bM := Boxed.new w10 24 (.pointer (some ⟨p, 0, none⟩))
                    have hSM : SB w10 (w10.alloc (.cells #[.pointer (some ⟨p, 0, none⟩)] 24)) := SB.al (SB.here w10) _
                    have hdM := hdA.below hSM
                    have hszM : (w10.alloc (.cells #[.pointer (some ⟨p, 0, none⟩)] 24)).heap.size = w10.heap.size + 1 := by rw [World.size_alloc]
                    have hplM := hdA.row.lt
                    have hglM := hdA.las.lt
                    have hs13 := hk10P.size
                    have hbM := (hSM.block b21 (by omega)).trans hb10
                    have hboM := (hSM.block (b21 + 1) (by omega)).trans hbo10
                    have hwM := (hSM.block gn (by omega)).trans hw10
                    have hKM := (hSM.block D (Array.getElem?_eq_some_iff.1 hK10).1).trans hK10
                    have hkM := hk10P.trans (Keeps.of_below (L := LP) hSM (fun k h _ => h))
                    obtain ⟨bn, hbn⟩ : ∃ bn, w10.heap.size = bn := ⟨_, rfl⟩
                    rw [hbn] at bM hszM hplM hglM hgX10 hs10
                    rw [hbn]
                    generalize w10.alloc (.cells #[.pointer (some ⟨p, 0, none⟩)] 24) = wm at bM hdM hszM hbM hboM hwM hKM hkM ⊢
                    obtain ⟨row, las⟩ := And.intro hdM.row hdM.las
                    have h8 : ∀ b ∈ RK, b.length = 128 := by have h := hdM.good.rows; rwa [c10.lasts] at h
                    have hm : RK.length ≤ 4096 := by have h := hdM.good.most; rwa [c10.lasts] at h
                    rw [c10.lasts] at row las
                    have HM := Lib.hid (And.intro (show DiskIs LQ wm p D5 from ⟨_, _, _, _, hdM⟩) (And.intro (show Boxed wm b21 33 (.slice (some ⟨gn, 0, none⟩) 16 cv) from hbM) (And.intro (show Boxed wm (b21 + 1) 4 (.bool true) from hboM) (And.intro (show WasAt wm gn S spn from hwM) (And.intro hKM (And.intro hkM (And.intro c10 (And.intro (show b21 + 2 ≤ wm.heap.size by omega) (show gn < wm.heap.size by omega)))))))))
                    have HPM := Lib.hid (And.intro hplM (And.intro hglM hszM))
                    have HRK := Lib.hid h8
                    clear hdA hb10 hbo10 hw10 hK10 hk10P c10 hs10 hgX10 hSM hdM hbM hboM hwM hKM hkM H13 hbn hs13
                    rw [← wpIn_wide (n := 6)]
                    refine' wpIn_rangeFunc_ownH rfl (by omega) (gf := 31) (lb := #[.pointer (some ⟨bn, 0, none⟩)]) rfl trivial (enters_of Try.func31 (by kernel_rfl) rfl)
                      (All_stops 5 (by omega) bn p glA RK _ h8 hm wm bM row las) keepsA_t (keepsA_b (by omega) (by omega) (by omega)) (Below.refl _ _) (fun _ => rfl)
                      (fun _ W => Keeps (fun _ => True) wm W) (fun _ _ _ => False) (ownFrom_keeps (Nat.le_refl _)) (fun _ _ _ _ _ hs _ _ => hs) (Keeps.refl _ _)
                      (fun x a' W => ∃ g, (a' = { tmps := #[Value.slice q0 N cap, Value.slice q2 N2 cap2, Value.int IntKind.i64 a2, undef, undef, undef, Value.pointer (some { block := w.heap.size, off := 0 }), Value.pointer (some { block := p, off := 0 }), Value.int IntKind.i64 0, undef, u10, Value.pointer (some { block := bx, off := 0 }), undef, undef, Value.int IntKind.i64 ↑nd, undef, u16, Value.slice (some { block := gn, off := 0 }) 16 cv, u18, u19, u20, Value.pointer (some { block := b21, off := 0 }), Value.pointer (some { block := b21 + 1, off := 0 }), Value.int IntKind.i64 (x.1 : Nat), Value.pointer (some ⟨g, 0, none⟩), Value.bool true, Value.bool false, Value.slice q0 N cap, Value.int IntKind.i64 ↑N, Value.slice q2 N2 cap2, Value.int IntKind.i64 ↑N2, Value.int IntKind.i64 (↑N + ↑N2), Value.bool false, Value.tuple #[Value.pointer (some { block := p, off := 0 }), Value.int IntKind.i64 0], Value.tuple #[Value.pointer (some { block := p, off := 0 }), Value.int IntKind.i64 0], Value.pointer (some { block := p, off := 0 }), Value.int IntKind.i64 0, Value.slice q0 N cap, Value.int IntKind.i64 ↑N, Value.int IntKind.i64 ↑j, Value.bool false, u41, u42, u43, u44, u45, u46, u47, u48, u49, u50, Value.pointer (some { block := p, off := 0 }), Value.int IntKind.i64 0, Value.pointer (some { block := p, off := 0 }), Value.func (Fn.func 31) #[] #[Value.pointer (some { block := bx + 1, off := 0 })], undef, undef, undef, undef, undef, undef, Value.slice q2 N2 cap2, Value.int IntKind.i64 ↑N2, Value.int IntKind.i64 ↑j2, Value.bool false, u65, u66, u67, u68, u69, u70, u71, u72, u73, u74, u75, u76, u77, u78, u79, u80, u81, u82, Value.int IntKind.i64 16, Value.bool false, u85, u86, u87, u88, u89, u90, u91, u92, u93, u94, u95, u96, Value.slice (some { block := gw, off := 0 }) L1.length cp, Value.int IntKind.i64 a2, Value.pointer (some { block := p, off := 0 }), Value.int IntKind.i64 (↑nd * 128), Value.bool true, Value.slice (some { block := gn, off := 0 }) 16 cv, Value.int IntKind.i64 a2, Value.bool true, Value.bool true, undef, undef, undef, undef, Value.bool true, Value.pointer (some { block := p, off := 0 }), Value.int IntKind.i64 a2, Value.tuple #[], Value.pointer (some { block := p, off := 0 }), Value.func (Fn.func 31) #[] #[Value.pointer (some { block := bn, off := 0 })], Value.int IntKind.i64 (x.1 : Nat), Value.agg ((RK.getD x.1 []).map bv).toArray, undef, undef, undef, undef, undef, undef, undef, undef, undef, undef, undef, undef, undef, undef, undef, undef, undef], defers := [] }) ∧ Row W g 42 ((RK.getD x.1 []).map bv))
                      (fun x a' => ax_own _) ?hassignA1 ?hbodyA1 ?hdoneA1 ?hstopA1
                    case hstopA1 =>
                      rintro D c pre W _ _ h _
                      exact h.elim
                    case hassignA1 =>
                      intro l' pre x W K hI hK
                      unfold allArgs
                      rw [show blkV (RK.getD x.1 []) = Value.agg ((RK.getD x.1 []).map bv).toArray from rfl]
                      have hx8 : (RK.getD x.1 []).length = 128 := getD_len HRK.out x.2
                      obtain ⟨hsb, hrow⟩ := boxed_blk W (RK.getD x.1 [])
                      have hnew := Row.new W 42 zB
                      have hone := blkV_one (RK.getD x.1 [])
                      have hszA := blk_sizeA _ hx8
                      have hzl : zB.toArray.size = ((RK.getD x.1 []).map bv).toArray.size := by rw [List.size_toArray, List.size_toArray, List.length_map, hx8, zB_len]
                      have hI2 := hI.trans (Keeps.of_below (L := fun _ => True) hsb (fun _ h _ => h))
                      have hW2 : wm.heap.size ≤ W.heap.size := hI.size
                      obtain ⟨css, hcs⟩ : ∃ css, ((RK.getD x.1 []).map bv).toArray = css := ⟨_, rfl⟩
                      have HX := Lib.hid (And.intro hsb (And.intro hrow (And.intro hI2 (And.intro hone (And.intro hszA (And.intro hzl hW2))))))
                      have HCS := Lib.hid hcs
                      have hz := (zero_of_info zB_info).1
                      clear hsb hrow hone hszA hzl hI2 hW2
                      rw [hcs] at HX ⊢
                      clear hcs
                      gi_wp2_with (refine wpIn_store_row 42 (.tmp 24) (.tmp 117) rfl W.heap.size css rfl rfl 42 zB.toArray hnew HX.out.2.2.2.2.1 HX.out.2.2.2.2.2.1 HX.out.2.2.2.1 ?_)
                      refine hK _ _ ((below_others HX.out.1).from _) (keepsA_of (L := fun _ => True) (Keeps.of_below HX.out.1 (fun _ h _ => h)) trivial trivial trivial ?_ ?_ ?_) HX.out.2.2.1 ⟨W.heap.size, ?_, HX.out.2.1⟩
                      · have := HX.out.2.2.2.2.2.2; have := HPM.out.2.2; omega
                      · have := HX.out.2.2.2.2.2.2; have := HPM.out.2.2; omega
                      · have := HX.out.2.2.2.2.2.2; have := HPM.out.2.2; omega
                      · rw [HCS.out]
                    case hbodyA1 =>
                      rintro l' pre x a' W hl' hrec hI ⟨g, rfl, hrow⟩ hlt
                      have hx8 : (RK.getD x.1 []).length = 128 := getD_len HRK.out x.2
                      have hszC := blk_size _ hx8
                      have hboxW : Boxed W b21 33 (.slice (some ⟨gn, 0, none⟩) 16 cv) := (hI.block b21 (by have := HM.out.2.2.2.2.2.2.2.1; omega) trivial).trans HM.out.2.1
                      have hboW : Boxed W (b21 + 1) 4 (.bool true) := (hI.block (b21 + 1) (by have := HM.out.2.2.2.2.2.2.2.1; omega) trivial).trans HM.out.2.2.1
                      have hdif := fun W => blk_differ (RK.getD x.1 []) hx8 W
                      unfold blkV at hdif
                      have hW2 : wm.heap.size ≤ W.heap.size := hI.size
                      have hwasW : WasAt W gn RK spn := by
                        have h : WasAt W gn S spn := (hI.block gn HM.out.2.2.2.2.2.2.2.2 trivial).trans HM.out.2.2.2.1
                        rw [HRX.out.1] at h
                        exact h
                      have hrkl : RK.length = 16 := by rw [← HRX.out.1] <;> exact HRX.out.2
                      have hxlt : ((x.1 : Nat) : Int) < 16 := by have := x.2; omega
                      have hrngW : ∀ W', SB W W' → W'.rangeAt gn (x.1 * 128) ((RK.getD x.1 []).map bv) := fun W' h => WasAt.range ((h.block gn (Row.lt hwasW)).trans hwasW) HRK.out x.2
                      have hrngG : ∀ W', SB W W' → W'.rangeAt g 0 ((RK.getD x.1 []).map bv) := fun W' h => by
                        have h := row_range (h.row hrow) 0 ((RK.getD x.1 []).map bv).length (by omega)
                        rwa [List.drop_zero, List.take_of_length_le (Nat.le_refl _)] at h
                      obtain ⟨C, hC⟩ : ∃ C, (RK.getD x.1 []).map bv = C := ⟨_, rfl⟩
                      obtain ⟨xi, hxi⟩ : ∃ xi, x.1 = xi := ⟨_, rfl⟩
                      rw [hC] at hszC hdif hrngG
                      try rw [hC] at hrngW
                      try rw [hxi] at hrngW
                      try rw [hxi] at hxlt
                      rw [hC, hxi]
                      have HX := Lib.hid (And.intro hboxW (And.intro hboW (And.intro hszC (And.intro hdif (And.intro hrngW (And.intro hrngG (And.intro hI hW2)))))))
                      clear hx8 hszC hboxW hboW hdif hrngW hrngG hC hxi hrow hlt hW2 hwasW hrkl
                      gi_wp2
                      refine round_quiet_lit (SB W) (by kernel_rfl) (by kernel_rfl) (by kernel_rfl) (below_drewN (Below.refl _ _) 1) ?_
                      refine wpQuiet_yields (.bool true) (Or.inl ⟨by rfl, fun W' hS => ?yboA1⟩) ?_
                      case yboA1 =>
                        have q0 := (SB.row (l := [.bool true]) hS HX.out.2.1).cell 0
                        simp only [List.getElem?_cons_zero] at q0
                        go_simp
                      try simp only [Act.put, List.setIfInBounds_toArray, List.set_cons_zero, List.set_cons_succ]
                      refine wpQuiet_yields (.bool true) (Or.inl ⟨by rfl, fun W' hS => by go_simp⟩) ?_
                      try simp only [Act.put, List.setIfInBounds_toArray, List.set_cons_zero, List.set_cons_succ]
                      refine wpQuiet_yields (.agg C.toArray) (yieldsIf_load_mid (by rfl) 42 (.tmp 24) rfl g 0 rfl C _ (fun W h => HX.out.2.2.2.2.2.1 W h) Try.underlying42 rfl HX.out.2.2.1) ?_
                      try simp only [Act.put, List.setIfInBounds_toArray, List.set_cons_zero, List.set_cons_succ]
                      refine wpQuiet_yields (.slice (some ⟨gn, 0, none⟩) 16 cv) (Or.inl ⟨by rfl, fun W' hS => ?yslA1⟩) ?_
                      case yslA1 =>
                        have q0 := (SB.row (l := [.slice (some ⟨gn, 0, none⟩) 16 cv]) hS HX.out.1).cell 0
                        simp only [List.getElem?_cons_zero] at q0
                        go_simp
                      try simp only [Act.put, List.setIfInBounds_toArray, List.set_cons_zero, List.set_cons_succ]
                      refine wpQuiet_yields (.int .i64 (xi : Nat)) (Or.inl ⟨by rfl, fun W' hS => by go_simp⟩) ?_
                      try simp only [Act.put, List.setIfInBounds_toArray, List.set_cons_zero, List.set_cons_succ]
                      refine wpQuiet_yields (.pointer (some ⟨gn, xi * 128, none⟩)) (Or.inl ⟨by rfl, fun W' hS => by go_simp⟩) ?_
                      try simp only [Act.put, List.setIfInBounds_toArray, List.set_cons_zero, List.set_cons_succ]
                      refine wpQuiet_yields (.agg C.toArray) (yieldsIf_load_mid (by rfl) 42 (.tmp 123) rfl gn (xi * 128) rfl C _ (fun W h => HX.out.2.2.2.2.1 W h) Try.underlying42 rfl HX.out.2.2.1) ?_
                      try simp only [Act.put, List.setIfInBounds_toArray, List.set_cons_zero, List.set_cons_succ]
                      refine wpQuiet_yields (.bool false) (yields_neq (by rfl) _ _ _ _ rfl C.toArray rfl rfl (by kernel_rfl) HX.out.2.2.2.1) ?_
                      try simp only [Act.put, List.setIfInBounds_toArray, List.set_cons_zero, List.set_cons_succ]
                      refine wpQuiet_yields (.bool false) (Or.inl ⟨by rfl, fun W' hS => by go_simp⟩) ?_
                      try simp only [Act.put, List.setIfInBounds_toArray, List.set_cons_zero, List.set_cons_succ]
                      refine wpQuiet_nil ?_
                      intro wf hwf
                      gi_wp2
                      have hn := HPM.out
                      have hWn := HX.out.2.2.2.2.2.2.2
                      refine ⟨(below_others hwf).from _, keepsA_of (L := fun _ => True) (Keeps.of_below hwf (fun _ h _ => h)) trivial trivial trivial (by omega) (by omega) (by omega), HX.out.2.2.2.2.2.2.1.trans (Keeps.of_below hwf (fun _ h _ => h))⟩
                    case hdoneA1 =>
                      rintro D' xs W' hD' hS' hI hK'
                      obtain ⟨hdm, hbM, hboM, hwM, hKm, hkM, c10, hsm, hgm⟩ := HM.out
                      have hn6 := HN6.out
                      have hp := HP.out
                      have hskM := hkM.size
                      have hd12 : DiskIs LQ W' p D5 := hdm.keeps hI (fun _ _ _ => trivial)
                      have hK2 : W'.heap[D]? = some (.deferred (some [])) := (hI.block D (Array.getElem?_eq_some_iff.1 hKm).1 trivial).trans hKm
                      have hB12 : Below w1.heap.size w1 W' := (H12B.out.trans (hkM.below hn6.2.1 (fun k h => HLP.out.2.2.2.1 k h))).trans (hI.below (by omega) (fun _ _ => trivial))
                      have hRB : Boxed W' w.heap.size 4 (.bool false) := (hB12.block _ hp.2.2.1).trans HR.out.2
                      have hDD' : D < D' := by have := (Array.getElem?_eq_some_iff.1 hKm).1; omega
                      have hwb : w.heap.size < D := by omega
                      have HF := Lib.hid (And.intro hd12 (And.intro hK2 (And.intro hB12 (And.intro hRB (And.intro hDD' (And.intro hwb hK'))))))
                      have h0 : ((D5.hangs.length : Nat) : Int) * 128 = 0 := by rw [c10.empty]; rfl
                      have h0l : D5.hangs.length ≤ 1000000000 := by rw [c10.empty]; decide
                      have HH0 := Lib.hid (And.intro h0 (And.intro h0l c10.down))
                      clear hdm hbM hboM hwM hKm hkM c10 hsm hgm hn6 hp hskM hd12 hK2 hB12 hRB hDD' hwb hK' h0 h0l hS' hI hD'
                      go_wp2_with fail
                      obtain ⟨glF, gmF, hvF, DmF, hdF⟩ := HF.out.1
                      refine (Hangs_any hdF HH0.out.2.1).mono ?_
                      rintro e w' ⟨rfl, rfl⟩
                      rw [HH0.out.1]
                      have hcF := HF.out.2.2.2.1.cell
                      have hfF := HF.out.2.2.2.1.frozen
                      go_wp2_with fail
                      refine (Down_any hdF).mono ?_
                      rintro e w' ⟨rfl, rfl⟩
                      rw [HH0.out.2.2]
                      clear hdF
                      go_wp2_with fail
                      obtain ⟨hdF, hK2, hB12, hRB, hDD', hwb, hK'⟩ := HF.out
                      have hneD : D ≠ w.heap.size := by omega
                      have hneD' : D' ≠ w.heap.size := by omega
                      have hK5 : (W'.setCell ⟨w.heap.size, 0, none⟩ (.bool true)).heap[D']? = some (.deferred (some [])) := (Below.heap_setCell W' ⟨w.heap.size, 0, none⟩ (.bool true) D' hneD').trans hK'
                      have hK6 : ((W'.setCell ⟨w.heap.size, 0, none⟩ (.bool true)).putObj D' (.deferred none)).heap[D]? = some (.deferred (some [])) := (World.putObj_heap_other (by omega)).trans ((Below.heap_setCell W' ⟨w.heap.size, 0, none⟩ (.bool true) D hneD).trans hK2)
                      have hR6 : (((W'.setCell ⟨w.heap.size, 0, none⟩ (.bool true)).putObj D' (.deferred none)).putObj D (.deferred none)).cell? ⟨w.heap.size, 0, none⟩ = some (.bool true) := by
                        have h := hRB.set (.bool true)
                        have h2 : Boxed (((W'.setCell ⟨w.heap.size, 0, none⟩ (.bool true)).putObj D' (.deferred none)).putObj D (.deferred none)) w.heap.size 4 (.bool true) := (World.putObj_heap_other (by omega)).trans ((World.putObj_heap_other (by omega)).trans h)
                        exact h2.cell
                      refine ⟨by simp, .inl ⟨_, _, rfl, run_takeDeferred hK5, ⟨by simp, .inl ⟨_, _, rfl, run_takeDeferred hK6, ?_⟩⟩⟩⟩
                      refine ⟨.bool true, by simp [results, Try.f4, go_sem, hR6], rfl, ?_⟩
                      have hBf : Below w.heap.size w W' := HR.out.1.trans (hB12.mono HR.out.1.size)
                      exact ((hBf.setCell (p := ⟨w.heap.size, 0, none⟩) (Nat.le_refl _) _).trans (belowK_b (w := w) (Nat.le_refl _) _ D' _ _ (by omega) hK5 rfl rfl)).trans (belowK_b (w := w) (Nat.le_refl _) _ D _ _ (by omega) hK6 rfl rfl)
                  · go_wp2_with (refine (HHG.out _ HAB.out.2.2.2.2.1).mono ?_; rintro e w' ⟨rfl, rfl⟩)
                    rw [HAB.out.2.2.1]
                    have bW := Boxed.new (wA.setCell ⟨b21, 0, none⟩ (.slice (some ⟨gn, 0, none⟩) 16 cv)) 4 (.bool true)
                    have hSF : SB wr ((wA.setCell ⟨b21, 0, none⟩ (.slice (some ⟨gn, 0, none⟩) 16 cv)).alloc (.cells #[.bool true] 4)) := SB.al HAB.out.2.2.2.2.1 _
                    have hszF : ((wA.setCell ⟨b21, 0, none⟩ (.slice (some ⟨gn, 0, none⟩) 16 cv)).alloc (.cells #[.bool true] 4)).heap.size = b21 + 2 := by rw [World.size_alloc, HAB.out.2.2.2.2.2]
                    have hbF := Boxed.alloc HAB.out.2.2.2.1 (.cells #[.bool true] 4)
                    rw [HAB.out.2.2.2.2.2] at bW
                    generalize (wA.setCell ⟨b21, 0, none⟩ (.slice (some ⟨gn, 0, none⟩) 16 cv)).alloc (.cells #[.bool true] 4) = wF at bW hSF hszF hbF ⊢
                    have hA := HA.out
                    have hb21 := HB21.out
                    have hn6 := HN6.out
                    have hgXr : gn < wr.heap.size := by have := hA.2.2.2.2.2.1.size; omega
                    have hwF : WasAt wF gn S spn := (hSF.block gn hgXr).trans HA.out.2.2.1
                    have hKF : wF.heap[D]? = some (.deferred (some [])) := (hSF.block D (by have := hA.2.2.2.2.2.1.size; omega)).trans hA.2.2.2.1
                    have hkF : Keeps LP W wF := hA.2.2.2.2.2.1.trans (Keeps.of_below hSF (fun k h _ => h))
                    obtain ⟨LQ, hLQ⟩ : ∃ LQ : Nat → Prop, (fun k => LP k ∨ k = gn ∨ k = b21 ∨ k = b21 + 1) = LQ := ⟨_, rfl⟩
                    have hdF : DiskIs LQ wF p Dk := (hA.2.2.2.2.1.below hSF).less (fun k h => by
                      rw [← hLQ] at h
                      rcases h with h | h | h | h
                      · exact .inl h
                      · exact .inr (by omega)
                      · exact .inr (by have := hA.2.2.2.2.2.2.2.1; omega)
                      · exact .inr (by have := hA.2.2.2.2.2.2.2.1; omega))
                    have hLQ2 : LQ gn ∧ LQ b21 ∧ LQ (b21 + 1) ∧ (∀ k, LP k → LQ k) ∧ ∀ k, LQ k → k < wF.heap.size := by
                      rw [← hLQ]
                      exact ⟨.inr (.inl rfl), .inr (.inr (.inl rfl)), .inr (.inr (.inr rfl)), fun k h => .inl h, fun k h => by
                        rcases h with h | h | h | h
                        · have := HLP.out.2.2.2.2 k h; have := hkF.size; omega
                        · omega
                        · omega
                        · omega⟩
                    obtain ⟨RK, hRK⟩ : ∃ RK, kept Dk.hangs L1 a2 = RK := ⟨_, rfl⟩
                    have hRX : S = RK := by
                      obtain ⟨_, _, _, _, hh⟩ := HJ3.out.1
                      rw [← hRK, kept_full Dk.hangs hh.good.blks L1 a2 HL.out.1 (by rw [HND.out.1]; omega), ← HS.out.1, settled_all, HJ3.out.2.2.lasts]
                    have hRXl : S.length = 16 := HS.out.2.1
                    have cF := HJ3.out.2.2.crashed a2
                    obtain ⟨D5, hD5⟩ : ∃ D5, Dk.crashed a2 = D5 := ⟨_, rfl⟩
                    rw [hRK, hD5] at cF
                    obtain ⟨glF, gmF, hvF, DmF, hdF'⟩ := hdF
                    refine (Crash_any (L := LQ) hLQ2.2.2.2.2 hdF' a2 HI.out.1 HI.out.2 (by have := HND.out; omega)).mono ?_
                    rintro e w10 ⟨rfl, hd10, hk10⟩
                    rw [hD5] at hd10
                    have hb10 : Boxed w10 b21 33 (.slice (some ⟨gn, 0, none⟩) 16 cv) := (hk10.block b21 (by omega) hLQ2.2.1).trans hbF
                    have hbo10 : Boxed w10 (b21 + 1) 4 (.bool true) := (hk10.block (b21 + 1) (by omega) hLQ2.2.2.1).trans bW
                    have hw10 : WasAt w10 gn S spn := (hk10.block gn (by omega) hLQ2.1).trans hwF
                    have hK10 : w10.heap[D]? = some (.deferred (some [])) := (hk10.block D (by have := hkF.size; omega) (hLQ2.2.2.2.1 D HLP.out.2.2.1)).trans hKF
                    have hk10P : Keeps LP W w10 := hkF.trans (hk10.mono hLQ2.2.2.2.1)
                    have hs10 : b21 + 2 ≤ w10.heap.size := by have := hk10.size; omega
                    have hgX10 : gn < w10.heap.size := by have := hk10.size; omega
                    have H13 := Lib.hid (And.intro hd10 (And.intro hb10 (And.intro hbo10 (And.intro hw10 (And.intro hK10 (And.intro hk10P (And.intro cF (And.intro hs10 hgX10))))))))
                    have HRX := Lib.hid (And.intro hRX hRXl)
                    clear bW hSF hszF hbF hA hb21 hn6 hgXr hwF hKF hkF hdF' hLQ2 hLQ hRK hRX hRXl cF hD5 hd10 hk10 hb10 hbo10 hw10 hK10 hk10P hs10 hgX10
                    go_wp2_with fail
                    refine ((callsIn_wide (n := 0)).1 (All_in 0 (some ⟨p, 0, none⟩) _)).mono ?_
                    rintro e w11 ⟨rfl, rfl⟩
                    go_wp2_with fail
                    obtain ⟨⟨glA, gmA, hvA, DmA, hdA⟩, hb10, hbo10, hw10, hK10, hk10P, c10, hs10, hgX10⟩ := H13.out
                    have bM := Boxed.new w10 24 (.pointer (some ⟨p, 0, none⟩))
                    have hSM : SB w10 (w10.alloc (.cells #[.pointer (some ⟨p, 0, none⟩)] 24)) := SB.al (SB.here w10) _
                    have hdM := hdA.below hSM
                    have hszM : (w10.alloc (.cells #[.pointer (some ⟨p, 0, none⟩)] 24)).heap.size = w10.heap.size + 1 := by rw [World.size_alloc]
                    have hplM := hdA.row.lt
                    have hglM := hdA.las.lt
                    have hs13 := hk10P.size
                    have hbM := (hSM.block b21 (by omega)).trans hb10
                    have hboM := (hSM.block (b21 + 1) (by omega)).trans hbo10
                    have hwM := (hSM.block gn (by omega)).trans hw10
                    have hKM := (hSM.block D (Array.getElem?_eq_some_iff.1 hK10).1).trans hK10
                    have hkM := hk10P.trans (Keeps.of_below (L := LP) hSM (fun k h _ => h))
                    obtain ⟨bn, hbn⟩ : ∃ bn, w10.heap.size = bn := ⟨_, rfl⟩
                    rw [hbn] at bM hszM hplM hglM hgX10 hs10
                    rw [hbn]
                    generalize w10.alloc (.cells #[.pointer (some ⟨p, 0, none⟩)] 24) = wm at bM hdM hszM hbM hboM hwM hKM hkM ⊢
                    obtain ⟨row, las⟩ := And.intro hdM.row hdM.las
                    have h8 : ∀ b ∈ RK, b.length = 128 := by have h := hdM.good.rows; rwa [c10.lasts] at h
                    have hm : RK.length ≤ 4096 := by have h := hdM.good.most; rwa [c10.lasts] at h
                    rw [c10.lasts] at row las
                    have HM := Lib.hid (And.intro (show DiskIs LQ wm p D5 from ⟨_, _, _, _, hdM⟩) (And.intro (show Boxed wm b21 33 (.slice (some ⟨gn, 0, none⟩) 16 cv) from hbM) (And.intro (show Boxed wm (b21 + 1) 4 (.bool true) from hboM) (And.intro (show WasAt wm gn S spn from hwM) (And.intro hKM (And.intro hkM (And.intro c10 (And.intro (show b21 + 2 ≤ wm.heap.size by omega) (show gn < wm.heap.size by omega)))))))))
                    have HPM := Lib.hid (And.intro hplM (And.intro hglM hszM))
                    have HRK := Lib.hid h8
                    clear hdA hb10 hbo10 hw10 hK10 hk10P c10 hs10 hgX10 hSM hdM hbM hboM hwM hKM hkM H13 hbn hs13
                    rw [← wpIn_wide (n := 6)]
                    refine' wpIn_rangeFunc_ownH rfl (by omega) (gf := 31) (lb := #[.pointer (some ⟨bn, 0, none⟩)]) rfl trivial (enters_of Try.func31 (by kernel_rfl) rfl)
                      (All_stops 5 (by omega) bn p glA RK _ h8 hm wm bM row las) keepsA_t (keepsA_b (by omega) (by omega) (by omega)) (Below.refl _ _) (fun _ => rfl)
                      (fun _ W => Keeps (fun _ => True) wm W) (fun _ _ _ => False) (ownFrom_keeps (Nat.le_refl _)) (fun _ _ _ _ _ hs _ _ => hs) (Keeps.refl _ _)
                      (fun x a' W => ∃ g, (a' = { tmps := #[Value.slice q0 N cap, Value.slice q2 N2 cap2, Value.int IntKind.i64 a2, undef, undef, undef, Value.pointer (some { block := w.heap.size, off := 0 }), Value.pointer (some { block := p, off := 0 }), Value.int IntKind.i64 0, undef, u10, Value.pointer (some { block := bx, off := 0 }), undef, undef, Value.int IntKind.i64 ↑nd, undef, u16, Value.slice (some { block := gn, off := 0 }) 16 cv, u18, u19, u20, Value.pointer (some { block := b21, off := 0 }), Value.pointer (some { block := b21 + 1, off := 0 }), Value.int IntKind.i64 (x.1 : Nat), Value.pointer (some ⟨g, 0, none⟩), Value.bool true, Value.bool false, Value.slice q0 N cap, Value.int IntKind.i64 ↑N, Value.slice q2 N2 cap2, Value.int IntKind.i64 ↑N2, Value.int IntKind.i64 (↑N + ↑N2), Value.bool false, Value.tuple #[Value.pointer (some { block := p, off := 0 }), Value.int IntKind.i64 0], Value.tuple #[Value.pointer (some { block := p, off := 0 }), Value.int IntKind.i64 0], Value.pointer (some { block := p, off := 0 }), Value.int IntKind.i64 0, Value.slice q0 N cap, Value.int IntKind.i64 ↑N, Value.int IntKind.i64 ↑j, Value.bool false, u41, u42, u43, u44, u45, u46, u47, u48, u49, u50, Value.pointer (some { block := p, off := 0 }), Value.int IntKind.i64 0, Value.pointer (some { block := p, off := 0 }), Value.func (Fn.func 31) #[] #[Value.pointer (some { block := bx + 1, off := 0 })], undef, undef, undef, undef, undef, undef, Value.slice q2 N2 cap2, Value.int IntKind.i64 ↑N2, Value.int IntKind.i64 ↑j2, Value.bool false, u65, u66, u67, u68, u69, u70, u71, u72, u73, u74, u75, u76, u77, u78, u79, u80, u81, u82, Value.int IntKind.i64 16, Value.bool false, u85, u86, u87, u88, u89, u90, u91, u92, u93, u94, u95, u96, Value.slice (some { block := gw, off := 0 }) L1.length cp, Value.int IntKind.i64 a2, Value.pointer (some { block := p, off := 0 }), Value.int IntKind.i64 (↑nd * 128), Value.bool true, Value.slice (some { block := gn, off := 0 }) 16 cv, Value.int IntKind.i64 a2, Value.bool (decide (a2 ≤ 0)), Value.bool (decide (a2 ≤ 0)), Value.int IntKind.i64 a2, Value.pointer (some { block := p, off := 0 }), Value.int IntKind.i64 (↑nd * 128), Value.bool true, Value.bool true, Value.pointer (some { block := p, off := 0 }), Value.int IntKind.i64 a2, Value.tuple #[], Value.pointer (some { block := p, off := 0 }), Value.func (Fn.func 31) #[] #[Value.pointer (some { block := bn, off := 0 })], Value.int IntKind.i64 (x.1 : Nat), Value.agg ((RK.getD x.1 []).map bv).toArray, undef, undef, undef, undef, undef, undef, undef, undef, undef, undef, undef, undef, undef, undef, undef, undef, undef], defers := [] }) ∧ Row W g 42 ((RK.getD x.1 []).map bv))
                      (fun x a' => ax_own _) ?hassignA2 ?hbodyA2 ?hdoneA2 ?hstopA2
                    case hstopA2 =>
                      rintro D c pre W _ _ h _
                      exact h.elim
                    case hassignA2 =>
                      intro l' pre x W K hI hK
                      unfold allArgs
                      rw [show blkV (RK.getD x.1 []) = Value.agg ((RK.getD x.1 []).map bv).toArray from rfl]
                      have hx8 : (RK.getD x.1 []).length = 128 := getD_len HRK.out x.2
                      obtain ⟨hsb, hrow⟩ := boxed_blk W (RK.getD x.1 [])
                      have hnew := Row.new W 42 zB
                      have hone := blkV_one (RK.getD x.1 [])
                      have hszA := blk_sizeA _ hx8
                      have hzl : zB.toArray.size = ((RK.getD x.1 []).map bv).toArray.size := by rw [List.size_toArray, List.size_toArray, List.length_map, hx8, zB_len]
                      have hI2 := hI.trans (Keeps.of_below (L := fun _ => True) hsb (fun _ h _ => h))
                      have hW2 : wm.heap.size ≤ W.heap.size := hI.size
                      obtain ⟨css, hcs⟩ : ∃ css, ((RK.getD x.1 []).map bv).toArray = css := ⟨_, rfl⟩
                      have HX := Lib.hid (And.intro hsb (And.intro hrow (And.intro hI2 (And.intro hone (And.intro hszA (And.intro hzl hW2))))))
                      have HCS := Lib.hid hcs
                      have hz := (zero_of_info zB_info).1
                      clear hsb hrow hone hszA hzl hI2 hW2
                      rw [hcs] at HX ⊢
                      clear hcs
                      gi_wp2_with (refine wpIn_store_row 42 (.tmp 24) (.tmp 117) rfl W.heap.size css rfl rfl 42 zB.toArray hnew HX.out.2.2.2.2.1 HX.out.2.2.2.2.2.1 HX.out.2.2.2.1 ?_)
                      refine hK _ _ ((below_others HX.out.1).from _) (keepsA_of (L := fun _ => True) (Keeps.of_below HX.out.1 (fun _ h _ => h)) trivial trivial trivial ?_ ?_ ?_) HX.out.2.2.1 ⟨W.heap.size, ?_, HX.out.2.1⟩
                      · have := HX.out.2.2.2.2.2.2; have := HPM.out.2.2; omega
                      · have := HX.out.2.2.2.2.2.2; have := HPM.out.2.2; omega
                      · have := HX.out.2.2.2.2.2.2; have := HPM.out.2.2; omega
                      · rw [HCS.out]
                    case hbodyA2 =>
                      rintro l' pre x a' W hl' hrec hI ⟨g, rfl, hrow⟩ hlt
                      have hx8 : (RK.getD x.1 []).length = 128 := getD_len HRK.out x.2
                      have hszC := blk_size _ hx8
                      have hboxW : Boxed W b21 33 (.slice (some ⟨gn, 0, none⟩) 16 cv) := (hI.block b21 (by have := HM.out.2.2.2.2.2.2.2.1; omega) trivial).trans HM.out.2.1
                      have hboW : Boxed W (b21 + 1) 4 (.bool true) := (hI.block (b21 + 1) (by have := HM.out.2.2.2.2.2.2.2.1; omega) trivial).trans HM.out.2.2.1
                      have hdif := fun W => blk_differ (RK.getD x.1 []) hx8 W
                      unfold blkV at hdif
                      have hW2 : wm.heap.size ≤ W.heap.size := hI.size
                      have hwasW : WasAt W gn RK spn := by
                        have h : WasAt W gn S spn := (hI.block gn HM.out.2.2.2.2.2.2.2.2 trivial).trans HM.out.2.2.2.1
                        rw [HRX.out.1] at h
                        exact h
                      have hrkl : RK.length = 16 := by rw [← HRX.out.1] <;> exact HRX.out.2
                      have hxlt : ((x.1 : Nat) : Int) < 16 := by have := x.2; omega
                      have hrngW : ∀ W', SB W W' → W'.rangeAt gn (x.1 * 128) ((RK.getD x.1 []).map bv) := fun W' h => WasAt.range ((h.block gn (Row.lt hwasW)).trans hwasW) HRK.out x.2
                      have hrngG : ∀ W', SB W W' → W'.rangeAt g 0 ((RK.getD x.1 []).map bv) := fun W' h => by
                        have h := row_range (h.row hrow) 0 ((RK.getD x.1 []).map bv).length (by omega)
                        rwa [List.drop_zero, List.take_of_length_le (Nat.le_refl _)] at h
                      obtain ⟨C, hC⟩ : ∃ C, (RK.getD x.1 []).map bv = C := ⟨_, rfl⟩
                      obtain ⟨xi, hxi⟩ : ∃ xi, x.1 = xi := ⟨_, rfl⟩
                      rw [hC] at hszC hdif hrngG
                      try rw [hC] at hrngW
                      try rw [hxi] at hrngW
                      try rw [hxi] at hxlt
                      rw [hC, hxi]
                      have HX := Lib.hid (And.intro hboxW (And.intro hboW (And.intro hszC (And.intro hdif (And.intro hrngW (And.intro hrngG (And.intro hI hW2)))))))
                      clear hx8 hszC hboxW hboW hdif hrngW hrngG hC hxi hrow hlt hW2 hwasW hrkl
                      gi_wp2
                      refine round_quiet_lit (SB W) (by kernel_rfl) (by kernel_rfl) (by kernel_rfl) (below_drewN (Below.refl _ _) 1) ?_
                      refine wpQuiet_yields (.bool true) (Or.inl ⟨by rfl, fun W' hS => ?yboA2⟩) ?_
                      case yboA2 =>
                        have q0 := (SB.row (l := [.bool true]) hS HX.out.2.1).cell 0
                        simp only [List.getElem?_cons_zero] at q0
                        go_simp
                      try simp only [Act.put, List.setIfInBounds_toArray, List.set_cons_zero, List.set_cons_succ]
                      refine wpQuiet_yields (.bool true) (Or.inl ⟨by rfl, fun W' hS => by go_simp⟩) ?_
                      try simp only [Act.put, List.setIfInBounds_toArray, List.set_cons_zero, List.set_cons_succ]
                      refine wpQuiet_yields (.agg C.toArray) (yieldsIf_load_mid (by rfl) 42 (.tmp 24) rfl g 0 rfl C _ (fun W h => HX.out.2.2.2.2.2.1 W h) Try.underlying42 rfl HX.out.2.2.1) ?_
                      try simp only [Act.put, List.setIfInBounds_toArray, List.set_cons_zero, List.set_cons_succ]
                      refine wpQuiet_yields (.slice (some ⟨gn, 0, none⟩) 16 cv) (Or.inl ⟨by rfl, fun W' hS => ?yslA2⟩) ?_
                      case yslA2 =>
                        have q0 := (SB.row (l := [.slice (some ⟨gn, 0, none⟩) 16 cv]) hS HX.out.1).cell 0
                        simp only [List.getElem?_cons_zero] at q0
                        go_simp
                      try simp only [Act.put, List.setIfInBounds_toArray, List.set_cons_zero, List.set_cons_succ]
                      refine wpQuiet_yields (.int .i64 (xi : Nat)) (Or.inl ⟨by rfl, fun W' hS => by go_simp⟩) ?_
                      try simp only [Act.put, List.setIfInBounds_toArray, List.set_cons_zero, List.set_cons_succ]
                      refine wpQuiet_yields (.pointer (some ⟨gn, xi * 128, none⟩)) (Or.inl ⟨by rfl, fun W' hS => by go_simp⟩) ?_
                      try simp only [Act.put, List.setIfInBounds_toArray, List.set_cons_zero, List.set_cons_succ]
                      refine wpQuiet_yields (.agg C.toArray) (yieldsIf_load_mid (by rfl) 42 (.tmp 123) rfl gn (xi * 128) rfl C _ (fun W h => HX.out.2.2.2.2.1 W h) Try.underlying42 rfl HX.out.2.2.1) ?_
                      try simp only [Act.put, List.setIfInBounds_toArray, List.set_cons_zero, List.set_cons_succ]
                      refine wpQuiet_yields (.bool false) (yields_neq (by rfl) _ _ _ _ rfl C.toArray rfl rfl (by kernel_rfl) HX.out.2.2.2.1) ?_
                      try simp only [Act.put, List.setIfInBounds_toArray, List.set_cons_zero, List.set_cons_succ]
                      refine wpQuiet_yields (.bool false) (Or.inl ⟨by rfl, fun W' hS => by go_simp⟩) ?_
                      try simp only [Act.put, List.setIfInBounds_toArray, List.set_cons_zero, List.set_cons_succ]
                      refine wpQuiet_nil ?_
                      intro wf hwf
                      gi_wp2
                      have hn := HPM.out
                      have hWn := HX.out.2.2.2.2.2.2.2
                      refine ⟨(below_others hwf).from _, keepsA_of (L := fun _ => True) (Keeps.of_below hwf (fun _ h _ => h)) trivial trivial trivial (by omega) (by omega) (by omega), HX.out.2.2.2.2.2.2.1.trans (Keeps.of_below hwf (fun _ h _ => h))⟩
                    case hdoneA2 =>
                      rintro D' xs W' hD' hS' hI hK'
                      obtain ⟨hdm, hbM, hboM, hwM, hKm, hkM, c10, hsm, hgm⟩ := HM.out
                      have hn6 := HN6.out
                      have hp := HP.out
                      have hskM := hkM.size
                      have hd12 : DiskIs LQ W' p D5 := hdm.keeps hI (fun _ _ _ => trivial)
                      have hK2 : W'.heap[D]? = some (.deferred (some [])) := (hI.block D (Array.getElem?_eq_some_iff.1 hKm).1 trivial).trans hKm
                      have hB12 : Below w1.heap.size w1 W' := (H12B.out.trans (hkM.below hn6.2.1 (fun k h => HLP.out.2.2.2.1 k h))).trans (hI.below (by omega) (fun _ _ => trivial))
                      have hRB : Boxed W' w.heap.size 4 (.bool false) := (hB12.block _ hp.2.2.1).trans HR.out.2
                      have hDD' : D < D' := by have := (Array.getElem?_eq_some_iff.1 hKm).1; omega
                      have hwb : w.heap.size < D := by omega
                      have HF := Lib.hid (And.intro hd12 (And.intro hK2 (And.intro hB12 (And.intro hRB (And.intro hDD' (And.intro hwb hK'))))))
                      have h0 : ((D5.hangs.length : Nat) : Int) * 128 = 0 := by rw [c10.empty]; rfl
                      have h0l : D5.hangs.length ≤ 1000000000 := by rw [c10.empty]; decide
                      have HH0 := Lib.hid (And.intro h0 (And.intro h0l c10.down))
                      clear hdm hbM hboM hwM hKm hkM c10 hsm hgm hn6 hp hskM hd12 hK2 hB12 hRB hDD' hwb hK' h0 h0l hS' hI hD'
                      go_wp2_with fail
                      obtain ⟨glF, gmF, hvF, DmF, hdF⟩ := HF.out.1
                      refine (Hangs_any hdF HH0.out.2.1).mono ?_
                      rintro e w' ⟨rfl, rfl⟩
                      rw [HH0.out.1]
                      have hcF := HF.out.2.2.2.1.cell
                      have hfF := HF.out.2.2.2.1.frozen
                      go_wp2_with fail
                      refine (Down_any hdF).mono ?_
                      rintro e w' ⟨rfl, rfl⟩
                      rw [HH0.out.2.2]
                      clear hdF
                      go_wp2_with fail
                      obtain ⟨hdF, hK2, hB12, hRB, hDD', hwb, hK'⟩ := HF.out
                      have hneD : D ≠ w.heap.size := by omega
                      have hneD' : D' ≠ w.heap.size := by omega
                      have hK5 : (W'.setCell ⟨w.heap.size, 0, none⟩ (.bool true)).heap[D']? = some (.deferred (some [])) := (Below.heap_setCell W' ⟨w.heap.size, 0, none⟩ (.bool true) D' hneD').trans hK'
                      have hK6 : ((W'.setCell ⟨w.heap.size, 0, none⟩ (.bool true)).putObj D' (.deferred none)).heap[D]? = some (.deferred (some [])) := (World.putObj_heap_other (by omega)).trans ((Below.heap_setCell W' ⟨w.heap.size, 0, none⟩ (.bool true) D hneD).trans hK2)
                      have hR6 : (((W'.setCell ⟨w.heap.size, 0, none⟩ (.bool true)).putObj D' (.deferred none)).putObj D (.deferred none)).cell? ⟨w.heap.size, 0, none⟩ = some (.bool true) := by
                        have h := hRB.set (.bool true)
                        have h2 : Boxed (((W'.setCell ⟨w.heap.size, 0, none⟩ (.bool true)).putObj D' (.deferred none)).putObj D (.deferred none)) w.heap.size 4 (.bool true) := (World.putObj_heap_other (by omega)).trans ((World.putObj_heap_other (by omega)).trans h)
                        exact h2.cell
                      refine ⟨by simp, .inl ⟨_, _, rfl, run_takeDeferred hK5, ⟨by simp, .inl ⟨_, _, rfl, run_takeDeferred hK6, ?_⟩⟩⟩⟩
                      refine ⟨.bool true, by simp [results, Try.f4, go_sem, hR6], rfl, ?_⟩
                      have hBf : Below w.heap.size w W' := HR.out.1.trans (hB12.mono HR.out.1.size)
                      exact ((hBf.setCell (p := ⟨w.heap.size, 0, none⟩) (Nat.le_refl _) _).trans (belowK_b (w := w) (Nat.le_refl _) _ D' _ _ (by omega) hK5 rfl rfl)).trans (belowK_b (w := w) (Nat.le_refl _) _ D _ _ (by omega) hK6 rfl rfl)
                · by_cases hle : a2 ≤ 0
                  · go_wp2_with fail
                    rw [HAB.out.2.2.1]
                    have bW := Boxed.new wA 4 (.bool true)
                    have hSF : SB wr (wA.alloc (.cells #[.bool true] 4)) := SB.al HAB.out.2.1 _
                    have hszF : (wA.alloc (.cells #[.bool true] 4)).heap.size = b21 + 2 := by rw [World.size_alloc, HAB.out.2.2.1]
                    have hbF := Boxed.alloc HAB.out.1 (.cells #[.bool true] 4)
                    rw [HAB.out.2.2.1] at bW
                    generalize wA.alloc (.cells #[.bool true] 4) = wF at bW hSF hszF hbF ⊢
                    have hA := HA.out
                    have hb21 := HB21.out
                    have hn6 := HN6.out
                    have hgXr : gw < wr.heap.size := by have := hA.2.2.2.2.2.1.size; omega
                    have hwF : WasAt wF gw L1 sp := (hSF.block gw hgXr).trans HA.out.2.1
                    have hKF : wF.heap[D]? = some (.deferred (some [])) := (hSF.block D (by have := hA.2.2.2.2.2.1.size; omega)).trans hA.2.2.2.1
                    have hkF : Keeps LP W wF := hA.2.2.2.2.2.1.trans (Keeps.of_below hSF (fun k h _ => h))
                    obtain ⟨LQ, hLQ⟩ : ∃ LQ : Nat → Prop, (fun k => LP k ∨ k = gw ∨ k = b21 ∨ k = b21 + 1) = LQ := ⟨_, rfl⟩
                    have hdF : DiskIs LQ wF p Dk := (hA.2.2.2.2.1.below hSF).less (fun k h => by
                      rw [← hLQ] at h
                      rcases h with h | h | h | h
                      · exact .inl h
                      · exact .inl (h ▸ HLP.out.2.1)
                      · exact .inr (by have := hA.2.2.2.2.2.2.2.1; omega)
                      · exact .inr (by have := hA.2.2.2.2.2.2.2.1; omega))
                    have hLQ2 : LQ gw ∧ LQ b21 ∧ LQ (b21 + 1) ∧ (∀ k, LP k → LQ k) ∧ ∀ k, LQ k → k < wF.heap.size := by
                      rw [← hLQ]
                      exact ⟨.inr (.inl rfl), .inr (.inr (.inl rfl)), .inr (.inr (.inr rfl)), fun k h => .inl h, fun k h => by
                        rcases h with h | h | h | h
                        · have := HLP.out.2.2.2.2 k h; have := hkF.size; omega
                        · omega
                        · omega
                        · omega⟩
                    obtain ⟨RK, hRK⟩ : ∃ RK, kept Dk.hangs L1 a2 = RK := ⟨_, rfl⟩
                    have hRX : L1 = RK := by rw [← hRK, kept_none _ _ _ (by omega)]
                    have hRXl : L1.length = L1.length := rfl
                    have cF := HJ3.out.2.2.crashed a2
                    obtain ⟨D5, hD5⟩ : ∃ D5, Dk.crashed a2 = D5 := ⟨_, rfl⟩
                    rw [hRK, hD5] at cF
                    obtain ⟨glF, gmF, hvF, DmF, hdF'⟩ := hdF
                    refine (Crash_any (L := LQ) hLQ2.2.2.2.2 hdF' a2 HI.out.1 HI.out.2 (by have := HND.out; omega)).mono ?_
                    rintro e w10 ⟨rfl, hd10, hk10⟩
                    rw [hD5] at hd10
                    have hb10 : Boxed w10 b21 33 (.slice (some ⟨gw, 0, none⟩) L1.length cp) := (hk10.block b21 (by omega) hLQ2.2.1).trans hbF
                    have hbo10 : Boxed w10 (b21 + 1) 4 (.bool true) := (hk10.block (b21 + 1) (by omega) hLQ2.2.2.1).trans bW
                    have hw10 : WasAt w10 gw L1 sp := (hk10.block gw (by omega) hLQ2.1).trans hwF
                    have hK10 : w10.heap[D]? = some (.deferred (some [])) := (hk10.block D (by have := hkF.size; omega) (hLQ2.2.2.2.1 D HLP.out.2.2.1)).trans hKF
                    have hk10P : Keeps LP W w10 := hkF.trans (hk10.mono hLQ2.2.2.2.1)
                    have hs10 : b21 + 2 ≤ w10.heap.size := by have := hk10.size; omega
                    have hgX10 : gw < w10.heap.size := by have := hk10.size; omega
                    have H13 := Lib.hid (And.intro hd10 (And.intro hb10 (And.intro hbo10 (And.intro hw10 (And.intro hK10 (And.intro hk10P (And.intro cF (And.intro hs10 hgX10))))))))
                    have HRX := Lib.hid (And.intro hRX hRXl)
                    clear bW hSF hszF hbF hA hb21 hn6 hgXr hwF hKF hkF hdF' hLQ2 hLQ hRK hRX hRXl cF hD5 hd10 hk10 hb10 hbo10 hw10 hK10 hk10P hs10 hgX10
                    go_wp2_with fail
                    refine ((callsIn_wide (n := 0)).1 (All_in 0 (some ⟨p, 0, none⟩) _)).mono ?_
                    rintro e w11 ⟨rfl, rfl⟩
                    go_wp2_with fail
                    obtain ⟨⟨glA, gmA, hvA, DmA, hdA⟩, hb10, hbo10, hw10, hK10, hk10P, c10, hs10, hgX10⟩ := H13.out
                    have bM := Boxed.new w10 24 (.pointer (some ⟨p, 0, none⟩))
                    have hSM : SB w10 (w10.alloc (.cells #[.pointer (some ⟨p, 0, none⟩)] 24)) := SB.al (SB.here w10) _
                    have hdM := hdA.below hSM
                    have hszM : (w10.alloc (.cells #[.pointer (some ⟨p, 0, none⟩)] 24)).heap.size = w10.heap.size + 1 := by rw [World.size_alloc]
                    have hplM := hdA.row.lt
                    have hglM := hdA.las.lt
                    have hs13 := hk10P.size
                    have hbM := (hSM.block b21 (by omega)).trans hb10
                    have hboM := (hSM.block (b21 + 1) (by omega)).trans hbo10
                    have hwM := (hSM.block gw (by omega)).trans hw10
                    have hKM := (hSM.block D (Array.getElem?_eq_some_iff.1 hK10).1).trans hK10
                    have hkM := hk10P.trans (Keeps.of_below (L := LP) hSM (fun k h _ => h))
                    obtain ⟨bn, hbn⟩ : ∃ bn, w10.heap.size = bn := ⟨_, rfl⟩
                    rw [hbn] at bM hszM hplM hglM hgX10 hs10
                    rw [hbn]
                    generalize w10.alloc (.cells #[.pointer (some ⟨p, 0, none⟩)] 24) = wm at bM hdM hszM hbM hboM hwM hKM hkM ⊢
                    obtain ⟨row, las⟩ := And.intro hdM.row hdM.las
                    have h8 : ∀ b ∈ RK, b.length = 128 := by have h := hdM.good.rows; rwa [c10.lasts] at h
                    have hm : RK.length ≤ 4096 := by have h := hdM.good.most; rwa [c10.lasts] at h
                    rw [c10.lasts] at row las
                    have HM := Lib.hid (And.intro (show DiskIs LQ wm p D5 from ⟨_, _, _, _, hdM⟩) (And.intro (show Boxed wm b21 33 (.slice (some ⟨gw, 0, none⟩) L1.length cp) from hbM) (And.intro (show Boxed wm (b21 + 1) 4 (.bool true) from hboM) (And.intro (show WasAt wm gw L1 sp from hwM) (And.intro hKM (And.intro hkM (And.intro c10 (And.intro (show b21 + 2 ≤ wm.heap.size by omega) (show gw < wm.heap.size by omega)))))))))
                    have HPM := Lib.hid (And.intro hplM (And.intro hglM hszM))
                    have HRK := Lib.hid h8
                    clear hdA hb10 hbo10 hw10 hK10 hk10P c10 hs10 hgX10 hSM hdM hbM hboM hwM hKM hkM H13 hbn hs13
                    rw [← wpIn_wide (n := 6)]
                    refine' wpIn_rangeFunc_ownH rfl (by omega) (gf := 31) (lb := #[.pointer (some ⟨bn, 0, none⟩)]) rfl trivial (enters_of Try.func31 (by kernel_rfl) rfl)
                      (All_stops 5 (by omega) bn p glA RK _ h8 hm wm bM row las) keepsA_t (keepsA_b (by omega) (by omega) (by omega)) (Below.refl _ _) (fun _ => rfl)
                      (fun _ W => Keeps (fun _ => True) wm W) (fun _ _ _ => False) (ownFrom_keeps (Nat.le_refl _)) (fun _ _ _ _ _ hs _ _ => hs) (Keeps.refl _ _)
                      (fun x a' W => ∃ g, (a' = { tmps := #[Value.slice q0 N cap, Value.slice q2 N2 cap2, Value.int IntKind.i64 a2, undef, undef, undef, Value.pointer (some { block := w.heap.size, off := 0 }), Value.pointer (some { block := p, off := 0 }), Value.int IntKind.i64 0, undef, u10, Value.pointer (some { block := bx, off := 0 }), undef, undef, Value.int IntKind.i64 ↑nd, undef, u16, Value.slice (some { block := gn, off := 0 }) 16 cv, u18, u19, u20, Value.pointer (some { block := b21, off := 0 }), Value.pointer (some { block := b21 + 1, off := 0 }), Value.int IntKind.i64 (x.1 : Nat), Value.pointer (some ⟨g, 0, none⟩), Value.bool true, Value.bool false, Value.slice q0 N cap, Value.int IntKind.i64 ↑N, Value.slice q2 N2 cap2, Value.int IntKind.i64 ↑N2, Value.int IntKind.i64 (↑N + ↑N2), Value.bool false, Value.tuple #[Value.pointer (some { block := p, off := 0 }), Value.int IntKind.i64 0], Value.tuple #[Value.pointer (some { block := p, off := 0 }), Value.int IntKind.i64 0], Value.pointer (some { block := p, off := 0 }), Value.int IntKind.i64 0, Value.slice q0 N cap, Value.int IntKind.i64 ↑N, Value.int IntKind.i64 ↑j, Value.bool false, u41, u42, u43, u44, u45, u46, u47, u48, u49, u50, Value.pointer (some { block := p, off := 0 }), Value.int IntKind.i64 0, Value.pointer (some { block := p, off := 0 }), Value.func (Fn.func 31) #[] #[Value.pointer (some { block := bx + 1, off := 0 })], undef, undef, undef, undef, undef, undef, Value.slice q2 N2 cap2, Value.int IntKind.i64 ↑N2, Value.int IntKind.i64 ↑j2, Value.bool false, u65, u66, u67, u68, u69, u70, u71, u72, u73, u74, u75, u76, u77, u78, u79, u80, u81, u82, Value.int IntKind.i64 16, Value.bool false, u85, u86, u87, u88, u89, u90, u91, u92, u93, u94, u95, u96, Value.slice (some { block := gw, off := 0 }) L1.length cp, Value.int IntKind.i64 a2, Value.pointer (some { block := p, off := 0 }), Value.int IntKind.i64 (↑nd * 128), Value.bool (decide (↑nd * 128 ≤ a2)), undef, Value.int IntKind.i64 a2, Value.bool true, Value.bool true, undef, undef, undef, undef, Value.bool true, Value.pointer (some { block := p, off := 0 }), Value.int IntKind.i64 a2, Value.tuple #[], Value.pointer (some { block := p, off := 0 }), Value.func (Fn.func 31) #[] #[Value.pointer (some { block := bn, off := 0 })], Value.int IntKind.i64 (x.1 : Nat), Value.agg ((RK.getD x.1 []).map bv).toArray, undef, undef, undef, undef, undef, undef, undef, undef, undef, undef, undef, undef, undef, undef, undef, undef, undef], defers := [] }) ∧ Row W g 42 ((RK.getD x.1 []).map bv))
                      (fun x a' => ax_own _) ?hassignB1 ?hbodyB1 ?hdoneB1 ?hstopB1
                    case hstopB1 =>
                      rintro D c pre W _ _ h _
                      exact h.elim
                    case hassignB1 =>
                      intro l' pre x W K hI hK
                      unfold allArgs
                      rw [show blkV (RK.getD x.1 []) = Value.agg ((RK.getD x.1 []).map bv).toArray from rfl]
                      have hx8 : (RK.getD x.1 []).length = 128 := getD_len HRK.out x.2
                      obtain ⟨hsb, hrow⟩ := boxed_blk W (RK.getD x.1 [])
                      have hnew := Row.new W 42 zB
                      have hone := blkV_one (RK.getD x.1 [])
                      have hszA := blk_sizeA _ hx8
                      have hzl : zB.toArray.size = ((RK.getD x.1 []).map bv).toArray.size := by rw [List.size_toArray, List.size_toArray, List.length_map, hx8, zB_len]
                      have hI2 := hI.trans (Keeps.of_below (L := fun _ => True) hsb (fun _ h _ => h))
                      have hW2 : wm.heap.size ≤ W.heap.size := hI.size
                      obtain ⟨css, hcs⟩ : ∃ css, ((RK.getD x.1 []).map bv).toArray = css := ⟨_, rfl⟩
                      have HX := Lib.hid (And.intro hsb (And.intro hrow (And.intro hI2 (And.intro hone (And.intro hszA (And.intro hzl hW2))))))
                      have HCS := Lib.hid hcs
                      have hz := (zero_of_info zB_info).1
                      clear hsb hrow hone hszA hzl hI2 hW2
                      rw [hcs] at HX ⊢
                      clear hcs
                      gi_wp2_with (refine wpIn_store_row 42 (.tmp 24) (.tmp 117) rfl W.heap.size css rfl rfl 42 zB.toArray hnew HX.out.2.2.2.2.1 HX.out.2.2.2.2.2.1 HX.out.2.2.2.1 ?_)
                      refine hK _ _ ((below_others HX.out.1).from _) (keepsA_of (L := fun _ => True) (Keeps.of_below HX.out.1 (fun _ h _ => h)) trivial trivial trivial ?_ ?_ ?_) HX.out.2.2.1 ⟨W.heap.size, ?_, HX.out.2.1⟩
                      · have := HX.out.2.2.2.2.2.2; have := HPM.out.2.2; omega
                      · have := HX.out.2.2.2.2.2.2; have := HPM.out.2.2; omega
                      · have := HX.out.2.2.2.2.2.2; have := HPM.out.2.2; omega
                      · rw [HCS.out]
                    case hbodyB1 =>
                      rintro l' pre x a' W hl' hrec hI ⟨g, rfl, hrow⟩ hlt
                      have hx8 : (RK.getD x.1 []).length = 128 := getD_len HRK.out x.2
                      have hszC := blk_size _ hx8
                      have hboxW : Boxed W b21 33 (.slice (some ⟨gw, 0, none⟩) L1.length cp) := (hI.block b21 (by have := HM.out.2.2.2.2.2.2.2.1; omega) trivial).trans HM.out.2.1
                      have hboW : Boxed W (b21 + 1) 4 (.bool true) := (hI.block (b21 + 1) (by have := HM.out.2.2.2.2.2.2.2.1; omega) trivial).trans HM.out.2.2.1
                      have hdif := fun W => blk_differ (RK.getD x.1 []) hx8 W
                      unfold blkV at hdif
                      have hW2 : wm.heap.size ≤ W.heap.size := hI.size
                      have hwasW : WasAt W gw RK sp := by
                        have h : WasAt W gw L1 sp := (hI.block gw HM.out.2.2.2.2.2.2.2.2 trivial).trans HM.out.2.2.2.1
                        rw [HRX.out.1] at h
                        exact h
                      have hrkl : RK.length = L1.length := by rw [← HRX.out.1] <;> exact HRX.out.2
                      have hxlt : ((x.1 : Nat) : Int) < (L1.length : Nat) := by have := x.2; omega
                      have hrngW : ∀ W', SB W W' → W'.rangeAt gw (x.1 * 128) ((RK.getD x.1 []).map bv) := fun W' h => WasAt.range ((h.block gw (Row.lt hwasW)).trans hwasW) HRK.out x.2
                      have hrngG : ∀ W', SB W W' → W'.rangeAt g 0 ((RK.getD x.1 []).map bv) := fun W' h => by
                        have h := row_range (h.row hrow) 0 ((RK.getD x.1 []).map bv).length (by omega)
                        rwa [List.drop_zero, List.take_of_length_le (Nat.le_refl _)] at h
                      obtain ⟨C, hC⟩ : ∃ C, (RK.getD x.1 []).map bv = C := ⟨_, rfl⟩
                      obtain ⟨xi, hxi⟩ : ∃ xi, x.1 = xi := ⟨_, rfl⟩
                      rw [hC] at hszC hdif hrngG
                      try rw [hC] at hrngW
                      try rw [hxi] at hrngW
                      try rw [hxi] at hxlt
                      rw [hC, hxi]
                      have HX := Lib.hid (And.intro hboxW (And.intro hboW (And.intro hszC (And.intro hdif (And.intro hrngW (And.intro hrngG (And.intro hI hW2)))))))
                      clear hx8 hszC hboxW hboW hdif hrngW hrngG hC hxi hrow hlt hW2 hwasW hrkl
                      gi_wp2
                      refine round_quiet_lit (SB W) (by kernel_rfl) (by kernel_rfl) (by kernel_rfl) (below_drewN (Below.refl _ _) 1) ?_
                      refine wpQuiet_yields (.bool true) (Or.inl ⟨by rfl, fun W' hS => ?yboB1⟩) ?_
                      case yboB1 =>
                        have q0 := (SB.row (l := [.bool true]) hS HX.out.2.1).cell 0
                        simp only [List.getElem?_cons_zero] at q0
                        go_simp
                      try simp only [Act.put, List.setIfInBounds_toArray, List.set_cons_zero, List.set_cons_succ]
                      refine wpQuiet_yields (.bool true) (Or.inl ⟨by rfl, fun W' hS => by go_simp⟩) ?_
                      try simp only [Act.put, List.setIfInBounds_toArray, List.set_cons_zero, List.set_cons_succ]
                      refine wpQuiet_yields (.agg C.toArray) (yieldsIf_load_mid (by rfl) 42 (.tmp 24) rfl g 0 rfl C _ (fun W h => HX.out.2.2.2.2.2.1 W h) Try.underlying42 rfl HX.out.2.2.1) ?_
                      try simp only [Act.put, List.setIfInBounds_toArray, List.set_cons_zero, List.set_cons_succ]
                      refine wpQuiet_yields (.slice (some ⟨gw, 0, none⟩) L1.length cp) (Or.inl ⟨by rfl, fun W' hS => ?yslB1⟩) ?_
                      case yslB1 =>
                        have q0 := (SB.row (l := [.slice (some ⟨gw, 0, none⟩) L1.length cp]) hS HX.out.1).cell 0
                        simp only [List.getElem?_cons_zero] at q0
                        go_simp
                      try simp only [Act.put, List.setIfInBounds_toArray, List.set_cons_zero, List.set_cons_succ]
                      refine wpQuiet_yields (.int .i64 (xi : Nat)) (Or.inl ⟨by rfl, fun W' hS => by go_simp⟩) ?_
                      try simp only [Act.put, List.setIfInBounds_toArray, List.set_cons_zero, List.set_cons_succ]
                      refine wpQuiet_yields (.pointer (some ⟨gw, xi * 128, none⟩)) (Or.inl ⟨by rfl, fun W' hS => by go_simp⟩) ?_
                      try simp only [Act.put, List.setIfInBounds_toArray, List.set_cons_zero, List.set_cons_succ]
                      refine wpQuiet_yields (.agg C.toArray) (yieldsIf_load_mid (by rfl) 42 (.tmp 123) rfl gw (xi * 128) rfl C _ (fun W h => HX.out.2.2.2.2.1 W h) Try.underlying42 rfl HX.out.2.2.1) ?_
                      try simp only [Act.put, List.setIfInBounds_toArray, List.set_cons_zero, List.set_cons_succ]
                      refine wpQuiet_yields (.bool false) (yields_neq (by rfl) _ _ _ _ rfl C.toArray rfl rfl (by kernel_rfl) HX.out.2.2.2.1) ?_
                      try simp only [Act.put, List.setIfInBounds_toArray, List.set_cons_zero, List.set_cons_succ]
                      refine wpQuiet_yields (.bool false) (Or.inl ⟨by rfl, fun W' hS => by go_simp⟩) ?_
                      try simp only [Act.put, List.setIfInBounds_toArray, List.set_cons_zero, List.set_cons_succ]
                      refine wpQuiet_nil ?_
                      intro wf hwf
                      gi_wp2
                      have hn := HPM.out
                      have hWn := HX.out.2.2.2.2.2.2.2
                      refine ⟨(below_others hwf).from _, keepsA_of (L := fun _ => True) (Keeps.of_below hwf (fun _ h _ => h)) trivial trivial trivial (by omega) (by omega) (by omega), HX.out.2.2.2.2.2.2.1.trans (Keeps.of_below hwf (fun _ h _ => h))⟩
                    case hdoneB1 =>
                      rintro D' xs W' hD' hS' hI hK'
                      obtain ⟨hdm, hbM, hboM, hwM, hKm, hkM, c10, hsm, hgm⟩ := HM.out
                      have hn6 := HN6.out
                      have hp := HP.out
                      have hskM := hkM.size
                      have hd12 : DiskIs LQ W' p D5 := hdm.keeps hI (fun _ _ _ => trivial)
                      have hK2 : W'.heap[D]? = some (.deferred (some [])) := (hI.block D (Array.getElem?_eq_some_iff.1 hKm).1 trivial).trans hKm
                      have hB12 : Below w1.heap.size w1 W' := (H12B.out.trans (hkM.below hn6.2.1 (fun k h => HLP.out.2.2.2.1 k h))).trans (hI.below (by omega) (fun _ _ => trivial))
                      have hRB : Boxed W' w.heap.size 4 (.bool false) := (hB12.block _ hp.2.2.1).trans HR.out.2
                      have hDD' : D < D' := by have := (Array.getElem?_eq_some_iff.1 hKm).1; omega
                      have hwb : w.heap.size < D := by omega
                      have HF := Lib.hid (And.intro hd12 (And.intro hK2 (And.intro hB12 (And.intro hRB (And.intro hDD' (And.intro hwb hK'))))))
                      have h0 : ((D5.hangs.length : Nat) : Int) * 128 = 0 := by rw [c10.empty]; rfl
                      have h0l : D5.hangs.length ≤ 1000000000 := by rw [c10.empty]; decide
                      have HH0 := Lib.hid (And.intro h0 (And.intro h0l c10.down))
                      clear hdm hbM hboM hwM hKm hkM c10 hsm hgm hn6 hp hskM hd12 hK2 hB12 hRB hDD' hwb hK' h0 h0l hS' hI hD'
                      go_wp2_with fail
                      obtain ⟨glF, gmF, hvF, DmF, hdF⟩ := HF.out.1
                      refine (Hangs_any hdF HH0.out.2.1).mono ?_
                      rintro e w' ⟨rfl, rfl⟩
                      rw [HH0.out.1]
                      have hcF := HF.out.2.2.2.1.cell
                      have hfF := HF.out.2.2.2.1.frozen
                      go_wp2_with fail
                      refine (Down_any hdF).mono ?_
                      rintro e w' ⟨rfl, rfl⟩
                      rw [HH0.out.2.2]
                      clear hdF
                      go_wp2_with fail
                      obtain ⟨hdF, hK2, hB12, hRB, hDD', hwb, hK'⟩ := HF.out
                      have hneD : D ≠ w.heap.size := by omega
                      have hneD' : D' ≠ w.heap.size := by omega
                      have hK5 : (W'.setCell ⟨w.heap.size, 0, none⟩ (.bool true)).heap[D']? = some (.deferred (some [])) := (Below.heap_setCell W' ⟨w.heap.size, 0, none⟩ (.bool true) D' hneD').trans hK'
                      have hK6 : ((W'.setCell ⟨w.heap.size, 0, none⟩ (.bool true)).putObj D' (.deferred none)).heap[D]? = some (.deferred (some [])) := (World.putObj_heap_other (by omega)).trans ((Below.heap_setCell W' ⟨w.heap.size, 0, none⟩ (.bool true) D hneD).trans hK2)
                      have hR6 : (((W'.setCell ⟨w.heap.size, 0, none⟩ (.bool true)).putObj D' (.deferred none)).putObj D (.deferred none)).cell? ⟨w.heap.size, 0, none⟩ = some (.bool true) := by
                        have h := hRB.set (.bool true)
                        have h2 : Boxed (((W'.setCell ⟨w.heap.size, 0, none⟩ (.bool true)).putObj D' (.deferred none)).putObj D (.deferred none)) w.heap.size 4 (.bool true) := (World.putObj_heap_other (by omega)).trans ((World.putObj_heap_other (by omega)).trans h)
                        exact h2.cell
                      refine ⟨by simp, .inl ⟨_, _, rfl, run_takeDeferred hK5, ⟨by simp, .inl ⟨_, _, rfl, run_takeDeferred hK6, ?_⟩⟩⟩⟩
                      refine ⟨.bool true, by simp [results, Try.f4, go_sem, hR6], rfl, ?_⟩
                      have hBf : Below w.heap.size w W' := HR.out.1.trans (hB12.mono HR.out.1.size)
                      exact ((hBf.setCell (p := ⟨w.heap.size, 0, none⟩) (Nat.le_refl _) _).trans (belowK_b (w := w) (Nat.le_refl _) _ D' _ _ (by omega) hK5 rfl rfl)).trans (belowK_b (w := w) (Nat.le_refl _) _ D _ _ (by omega) hK6 rfl rfl)
                  · have hle' : decide (a2 ≤ 0) = false := decide_eq_false hle
                    have hge' : decide ((nd : Int) * 128 ≤ a2) = false := decide_eq_false hge
                    go_wp2_with (refine (HHG.out _ HAB.out.2.1).mono ?_; rintro e w' ⟨rfl, rfl⟩)
                    clear hle' hge'
                    rw [HAB.out.2.2.1]
                    have bW := Boxed.new wA 4 (.bool false)
                    have hSF : SB wr (wA.alloc (.cells #[.bool false] 4)) := SB.al HAB.out.2.1 _
                    have hszF : (wA.alloc (.cells #[.bool false] 4)).heap.size = b21 + 2 := by rw [World.size_alloc, HAB.out.2.2.1]
                    have hbF := Boxed.alloc HAB.out.1 (.cells #[.bool false] 4)
                    rw [HAB.out.2.2.1] at bW
                    generalize wA.alloc (.cells #[.bool false] 4) = wF at bW hSF hszF hbF ⊢
                    have hA := HA.out
                    have hb21 := HB21.out
                    have hn6 := HN6.out
                    have hgXr : gw < wr.heap.size := by have := hA.2.2.2.2.2.1.size; omega
                    have hwF : WasAt wF gw L1 sp := (hSF.block gw hgXr).trans HA.out.2.1
                    have hKF : wF.heap[D]? = some (.deferred (some [])) := (hSF.block D (by have := hA.2.2.2.2.2.1.size; omega)).trans hA.2.2.2.1
                    have hkF : Keeps LP W wF := hA.2.2.2.2.2.1.trans (Keeps.of_below hSF (fun k h _ => h))
                    obtain ⟨LQ, hLQ⟩ : ∃ LQ : Nat → Prop, (fun k => LP k ∨ k = gw ∨ k = b21 ∨ k = b21 + 1) = LQ := ⟨_, rfl⟩
                    have hdF : DiskIs LQ wF p Dk := (hA.2.2.2.2.1.below hSF).less (fun k h => by
                      rw [← hLQ] at h
                      rcases h with h | h | h | h
                      · exact .inl h
                      · exact .inl (h ▸ HLP.out.2.1)
                      · exact .inr (by have := hA.2.2.2.2.2.2.2.1; omega)
                      · exact .inr (by have := hA.2.2.2.2.2.2.2.1; omega))
                    have hLQ2 : LQ gw ∧ LQ b21 ∧ LQ (b21 + 1) ∧ (∀ k, LP k → LQ k) ∧ ∀ k, LQ k → k < wF.heap.size := by
                      rw [← hLQ]
                      exact ⟨.inr (.inl rfl), .inr (.inr (.inl rfl)), .inr (.inr (.inr rfl)), fun k h => .inl h, fun k h => by
                        rcases h with h | h | h | h
                        · have := HLP.out.2.2.2.2 k h; have := hkF.size; omega
                        · omega
                        · omega
                        · omega⟩
                    obtain ⟨RK, hRK⟩ : ∃ RK, kept Dk.hangs L1 a2 = RK := ⟨_, rfl⟩
                    have cF := HJ3.out.2.2.crashed a2
                    obtain ⟨D5, hD5⟩ : ∃ D5, Dk.crashed a2 = D5 := ⟨_, rfl⟩
                    rw [hRK, hD5] at cF
                    obtain ⟨glF, gmF, hvF, DmF, hdF'⟩ := hdF
                    refine (Crash_any (L := LQ) hLQ2.2.2.2.2 hdF' a2 HI.out.1 HI.out.2 (by have := HND.out; omega)).mono ?_
                    rintro e w10 ⟨rfl, hd10, hk10⟩
                    rw [hD5] at hd10
                    have hb10 : Boxed w10 b21 33 (.slice (some ⟨gw, 0, none⟩) L1.length cp) := (hk10.block b21 (by omega) hLQ2.2.1).trans hbF
                    have hbo10 : Boxed w10 (b21 + 1) 4 (.bool false) := (hk10.block (b21 + 1) (by omega) hLQ2.2.2.1).trans bW
                    have hw10 : WasAt w10 gw L1 sp := (hk10.block gw (by omega) hLQ2.1).trans hwF
                    have hK10 : w10.heap[D]? = some (.deferred (some [])) := (hk10.block D (by have := hkF.size; omega) (hLQ2.2.2.2.1 D HLP.out.2.2.1)).trans hKF
                    have hk10P : Keeps LP W w10 := hkF.trans (hk10.mono hLQ2.2.2.2.1)
                    have hs10 : b21 + 2 ≤ w10.heap.size := by have := hk10.size; omega
                    have hgX10 : gw < w10.heap.size := by have := hk10.size; omega
                    have H13 := Lib.hid (And.intro hd10 (And.intro hb10 (And.intro hbo10 (And.intro hw10 (And.intro hK10 (And.intro hk10P (And.intro cF (And.intro hs10 hgX10))))))))

                    clear bW hSF hszF hbF hA hb21 hn6 hgXr hwF hKF hkF hdF' hLQ2 hLQ hRK  cF hD5 hd10 hk10 hb10 hbo10 hw10 hK10 hk10P hs10 hgX10
                    go_wp2_with fail
                    refine ((callsIn_wide (n := 0)).1 (All_in 0 (some ⟨p, 0, none⟩) _)).mono ?_
                    rintro e w11 ⟨rfl, rfl⟩
                    go_wp2_with fail
                    obtain ⟨⟨glA, gmA, hvA, DmA, hdA⟩, hb10, hbo10, hw10, hK10, hk10P, c10, hs10, hgX10⟩ := H13.out
                    have bM := Boxed.new w10 24 (.pointer (some ⟨p, 0, none⟩))
                    have hSM : SB w10 (w10.alloc (.cells #[.pointer (some ⟨p, 0, none⟩)] 24)) := SB.al (SB.here w10) _
                    have hdM := hdA.below hSM
                    have hszM : (w10.alloc (.cells #[.pointer (some ⟨p, 0, none⟩)] 24)).heap.size = w10.heap.size + 1 := by rw [World.size_alloc]
                    have hplM := hdA.row.lt
                    have hglM := hdA.las.lt
                    have hs13 := hk10P.size
                    have hbM := (hSM.block b21 (by omega)).trans hb10
                    have hboM := (hSM.block (b21 + 1) (by omega)).trans hbo10
                    have hwM := (hSM.block gw (by omega)).trans hw10
                    have hKM := (hSM.block D (Array.getElem?_eq_some_iff.1 hK10).1).trans hK10
                    have hkM := hk10P.trans (Keeps.of_below (L := LP) hSM (fun k h _ => h))
                    obtain ⟨bn, hbn⟩ : ∃ bn, w10.heap.size = bn := ⟨_, rfl⟩
                    rw [hbn] at bM hszM hplM hglM hgX10 hs10
                    rw [hbn]
                    generalize w10.alloc (.cells #[.pointer (some ⟨p, 0, none⟩)] 24) = wm at bM hdM hszM hbM hboM hwM hKM hkM ⊢
                    obtain ⟨row, las⟩ := And.intro hdM.row hdM.las
                    have h8 : ∀ b ∈ RK, b.length = 128 := by have h := hdM.good.rows; rwa [c10.lasts] at h
                    have hm : RK.length ≤ 4096 := by have h := hdM.good.most; rwa [c10.lasts] at h
                    rw [c10.lasts] at row las
                    have HM := Lib.hid (And.intro (show DiskIs LQ wm p D5 from ⟨_, _, _, _, hdM⟩) (And.intro (show Boxed wm b21 33 (.slice (some ⟨gw, 0, none⟩) L1.length cp) from hbM) (And.intro (show Boxed wm (b21 + 1) 4 (.bool false) from hboM) (And.intro (show WasAt wm gw L1 sp from hwM) (And.intro hKM (And.intro hkM (And.intro c10 (And.intro (show b21 + 2 ≤ wm.heap.size by omega) (show gw < wm.heap.size by omega)))))))))
                    have HPM := Lib.hid (And.intro hplM (And.intro hglM hszM))
                    have HRK := Lib.hid h8
                    clear hdA hb10 hbo10 hw10 hK10 hk10P c10 hs10 hgX10 hSM hdM hbM hboM hwM hKM hkM H13 hbn hs13
                    rw [← wpIn_wide (n := 6)]
                    refine' wpIn_rangeFunc_ownH rfl (by omega) (gf := 31) (lb := #[.pointer (some ⟨bn, 0, none⟩)]) rfl trivial (enters_of Try.func31 (by kernel_rfl) rfl)
                      (All_stops 5 (by omega) bn p glA RK _ h8 hm wm bM row las) keepsA_t (keepsA_b (by omega) (by omega) (by omega)) (Below.refl _ _) (fun _ => rfl)
                      (fun _ W => Keeps (fun _ => True) wm W) (fun _ _ _ => False) (ownFrom_keeps (Nat.le_refl _)) (fun _ _ _ _ _ hs _ _ => hs) (Keeps.refl _ _)
                      (fun x a' W => ∃ g, (a' = { tmps := #[Value.slice q0 N cap, Value.slice q2 N2 cap2, Value.int IntKind.i64 a2, undef, undef, undef, Value.pointer (some { block := w.heap.size, off := 0 }), Value.pointer (some { block := p, off := 0 }), Value.int IntKind.i64 0, undef, u10, Value.pointer (some { block := bx, off := 0 }), undef, undef, Value.int IntKind.i64 ↑nd, undef, u16, Value.slice (some { block := gn, off := 0 }) 16 cv, u18, u19, u20, Value.pointer (some { block := b21, off := 0 }), Value.pointer (some { block := b21 + 1, off := 0 }), Value.int IntKind.i64 (x.1 : Nat), Value.pointer (some ⟨g, 0, none⟩), Value.bool true, Value.bool false, Value.slice q0 N cap, Value.int IntKind.i64 ↑N, Value.slice q2 N2 cap2, Value.int IntKind.i64 ↑N2, Value.int IntKind.i64 (↑N + ↑N2), Value.bool false, Value.tuple #[Value.pointer (some { block := p, off := 0 }), Value.int IntKind.i64 0], Value.tuple #[Value.pointer (some { block := p, off := 0 }), Value.int IntKind.i64 0], Value.pointer (some { block := p, off := 0 }), Value.int IntKind.i64 0, Value.slice q0 N cap, Value.int IntKind.i64 ↑N, Value.int IntKind.i64 ↑j, Value.bool false, u41, u42, u43, u44, u45, u46, u47, u48, u49, u50, Value.pointer (some { block := p, off := 0 }), Value.int IntKind.i64 0, Value.pointer (some { block := p, off := 0 }), Value.func (Fn.func 31) #[] #[Value.pointer (some { block := bx + 1, off := 0 })], undef, undef, undef, undef, undef, undef, Value.slice q2 N2 cap2, Value.int IntKind.i64 ↑N2, Value.int IntKind.i64 ↑j2, Value.bool false, u65, u66, u67, u68, u69, u70, u71, u72, u73, u74, u75, u76, u77, u78, u79, u80, u81, u82, Value.int IntKind.i64 16, Value.bool false, u85, u86, u87, u88, u89, u90, u91, u92, u93, u94, u95, u96, Value.slice (some { block := gw, off := 0 }) L1.length cp, Value.int IntKind.i64 a2, Value.pointer (some { block := p, off := 0 }), Value.int IntKind.i64 (↑nd * 128), Value.bool false, undef, Value.int IntKind.i64 a2, Value.bool false, Value.bool false, Value.int IntKind.i64 a2, Value.pointer (some { block := p, off := 0 }), Value.int IntKind.i64 (↑nd * 128), Value.bool false, Value.bool false, Value.pointer (some { block := p, off := 0 }), Value.int IntKind.i64 a2, Value.tuple #[], Value.pointer (some { block := p, off := 0 }), Value.func (Fn.func 31) #[] #[Value.pointer (some { block := bn, off := 0 })], Value.int IntKind.i64 (x.1 : Nat), Value.agg ((RK.getD x.1 []).map bv).toArray, undef, undef, undef, undef, undef, undef, undef, undef, undef, undef, undef, undef, undef, undef, undef, undef, undef], defers := [] }) ∧ Row W g 42 ((RK.getD x.1 []).map bv))
                      (fun x a' => ax_own _) ?hassignB2 ?hbodyB2 ?hdoneB2 ?hstopB2
                    case hstopB2 =>
                      rintro D c pre W _ _ h _
                      exact h.elim
                    case hassignB2 =>
                      intro l' pre x W K hI hK
                      unfold allArgs
                      rw [show blkV (RK.getD x.1 []) = Value.agg ((RK.getD x.1 []).map bv).toArray from rfl]
                      have hx8 : (RK.getD x.1 []).length = 128 := getD_len HRK.out x.2
                      obtain ⟨hsb, hrow⟩ := boxed_blk W (RK.getD x.1 [])
                      have hnew := Row.new W 42 zB
                      have hone := blkV_one (RK.getD x.1 [])
                      have hszA := blk_sizeA _ hx8
                      have hzl : zB.toArray.size = ((RK.getD x.1 []).map bv).toArray.size := by rw [List.size_toArray, List.size_toArray, List.length_map, hx8, zB_len]
                      have hI2 := hI.trans (Keeps.of_below (L := fun _ => True) hsb (fun _ h _ => h))
                      have hW2 : wm.heap.size ≤ W.heap.size := hI.size
                      obtain ⟨css, hcs⟩ : ∃ css, ((RK.getD x.1 []).map bv).toArray = css := ⟨_, rfl⟩
                      have HX := Lib.hid (And.intro hsb (And.intro hrow (And.intro hI2 (And.intro hone (And.intro hszA (And.intro hzl hW2))))))
                      have HCS := Lib.hid hcs
                      have hz := (zero_of_info zB_info).1
                      clear hsb hrow hone hszA hzl hI2 hW2
                      rw [hcs] at HX ⊢
                      clear hcs
                      gi_wp2_with (refine wpIn_store_row 42 (.tmp 24) (.tmp 117) rfl W.heap.size css rfl rfl 42 zB.toArray hnew HX.out.2.2.2.2.1 HX.out.2.2.2.2.2.1 HX.out.2.2.2.1 ?_)
                      refine hK _ _ ((below_others HX.out.1).from _) (keepsA_of (L := fun _ => True) (Keeps.of_below HX.out.1 (fun _ h _ => h)) trivial trivial trivial ?_ ?_ ?_) HX.out.2.2.1 ⟨W.heap.size, ?_, HX.out.2.1⟩
                      · have := HX.out.2.2.2.2.2.2; have := HPM.out.2.2; omega
                      · have := HX.out.2.2.2.2.2.2; have := HPM.out.2.2; omega
                      · have := HX.out.2.2.2.2.2.2; have := HPM.out.2.2; omega
                      · rw [HCS.out]
                    case hbodyB2 =>
                      rintro l' pre x a' W hl' hrec hI ⟨g, rfl, hrow⟩ hlt
                      have hx8 : (RK.getD x.1 []).length = 128 := getD_len HRK.out x.2
                      have hszC := blk_size _ hx8
                      have hboxW : Boxed W b21 33 (.slice (some ⟨gw, 0, none⟩) L1.length cp) := (hI.block b21 (by have := HM.out.2.2.2.2.2.2.2.1; omega) trivial).trans HM.out.2.1
                      have hboW : Boxed W (b21 + 1) 4 (.bool false) := (hI.block (b21 + 1) (by have := HM.out.2.2.2.2.2.2.2.1; omega) trivial).trans HM.out.2.2.1
                      have hdif := fun W => blk_differ (RK.getD x.1 []) hx8 W
                      unfold blkV at hdif
                      have hW2 : wm.heap.size ≤ W.heap.size := hI.size
                      have hrngW : True := trivial
                      have hxlt : True := trivial
                      have hrngG : ∀ W', SB W W' → W'.rangeAt g 0 ((RK.getD x.1 []).map bv) := fun W' h => by
                        have h := row_range (h.row hrow) 0 ((RK.getD x.1 []).map bv).length (by omega)
                        rwa [List.drop_zero, List.take_of_length_le (Nat.le_refl _)] at h
                      obtain ⟨C, hC⟩ : ∃ C, (RK.getD x.1 []).map bv = C := ⟨_, rfl⟩
                      obtain ⟨xi, hxi⟩ : ∃ xi, x.1 = xi := ⟨_, rfl⟩
                      rw [hC] at hszC hdif hrngG
                      try rw [hC] at hrngW
                      try rw [hxi] at hrngW
                      try rw [hxi] at hxlt
                      rw [hC, hxi]
                      have HX := Lib.hid (And.intro hboxW (And.intro hboW (And.intro hszC (And.intro hdif (And.intro hrngW (And.intro hrngG (And.intro hI hW2)))))))
                      clear hx8 hszC hboxW hboW hdif hrngW hrngG hC hxi hrow hlt hW2 hxlt
                      gi_wp2
                      refine round_quiet_lit (SB W) (by kernel_rfl) (by kernel_rfl) (by kernel_rfl) (below_drewN (Below.refl _ _) 1) ?_
                      refine wpQuiet_yields (.bool false) (Or.inl ⟨by rfl, fun W' hS => ?yboB2⟩) ?_
                      case yboB2 =>
                        have q0 := (SB.row (l := [.bool false]) hS HX.out.2.1).cell 0
                        simp only [List.getElem?_cons_zero] at q0
                        go_simp
                      try simp only [Act.put, List.setIfInBounds_toArray, List.set_cons_zero, List.set_cons_succ]
                      refine wpQuiet_yields (.bool false) (Or.inl ⟨by rfl, fun W' hS => by go_simp⟩) ?_
                      try simp only [Act.put, List.setIfInBounds_toArray, List.set_cons_zero, List.set_cons_succ]
                      refine wpQuiet_yields undef (Or.inr ⟨by rfl, rfl⟩) ?_
                      try simp only [Act.put, List.setIfInBounds_toArray, List.set_cons_zero, List.set_cons_succ]
                      refine wpQuiet_yields undef (Or.inr ⟨by rfl, rfl⟩) ?_
                      try simp only [Act.put, List.setIfInBounds_toArray, List.set_cons_zero, List.set_cons_succ]
                      refine wpQuiet_yields undef (Or.inr ⟨by rfl, rfl⟩) ?_
                      try simp only [Act.put, List.setIfInBounds_toArray, List.set_cons_zero, List.set_cons_succ]
                      refine wpQuiet_yields undef (Or.inr ⟨by rfl, rfl⟩) ?_
                      try simp only [Act.put, List.setIfInBounds_toArray, List.set_cons_zero, List.set_cons_succ]
                      refine wpQuiet_yields undef (Or.inr ⟨by rfl, rfl⟩) ?_
                      try simp only [Act.put, List.setIfInBounds_toArray, List.set_cons_zero, List.set_cons_succ]
                      refine wpQuiet_yields undef (Or.inr ⟨by rfl, rfl⟩) ?_
                      try simp only [Act.put, List.setIfInBounds_toArray, List.set_cons_zero, List.set_cons_succ]
                      refine wpQuiet_yields (.bool false) (Or.inl ⟨by rfl, fun W' hS => by go_simp⟩) ?_
                      try simp only [Act.put, List.setIfInBounds_toArray, List.set_cons_zero, List.set_cons_succ]
                      refine wpQuiet_nil ?_
                      intro wf hwf
                      gi_wp2
                      have hn := HPM.out
                      have hWn := HX.out.2.2.2.2.2.2.2
                      refine ⟨(below_others hwf).from _, keepsA_of (L := fun _ => True) (Keeps.of_below hwf (fun _ h _ => h)) trivial trivial trivial (by omega) (by omega) (by omega), HX.out.2.2.2.2.2.2.1.trans (Keeps.of_below hwf (fun _ h _ => h))⟩
                    case hdoneB2 =>
                      rintro D' xs W' hD' hS' hI hK'
                      obtain ⟨hdm, hbM, hboM, hwM, hKm, hkM, c10, hsm, hgm⟩ := HM.out
                      have hn6 := HN6.out
                      have hp := HP.out
                      have hskM := hkM.size
                      have hd12 : DiskIs LQ W' p D5 := hdm.keeps hI (fun _ _ _ => trivial)
                      have hK2 : W'.heap[D]? = some (.deferred (some [])) := (hI.block D (Array.getElem?_eq_some_iff.1 hKm).1 trivial).trans hKm
                      have hB12 : Below w1.heap.size w1 W' := (H12B.out.trans (hkM.below hn6.2.1 (fun k h => HLP.out.2.2.2.1 k h))).trans (hI.below (by omega) (fun _ _ => trivial))
                      have hRB : Boxed W' w.heap.size 4 (.bool false) := (hB12.block _ hp.2.2.1).trans HR.out.2
                      have hDD' : D < D' := by have := (Array.getElem?_eq_some_iff.1 hKm).1; omega
                      have hwb : w.heap.size < D := by omega
                      have HF := Lib.hid (And.intro hd12 (And.intro hK2 (And.intro hB12 (And.intro hRB (And.intro hDD' (And.intro hwb hK'))))))
                      have h0 : ((D5.hangs.length : Nat) : Int) * 128 = 0 := by rw [c10.empty]; rfl
                      have h0l : D5.hangs.length ≤ 1000000000 := by rw [c10.empty]; decide
                      have HH0 := Lib.hid (And.intro h0 (And.intro h0l c10.down))
                      clear hdm hbM hboM hwM hKm hkM c10 hsm hgm hn6 hp hskM hd12 hK2 hB12 hRB hDD' hwb hK' h0 h0l hS' hI hD'
                      go_wp2_with fail
                      obtain ⟨glF, gmF, hvF, DmF, hdF⟩ := HF.out.1
                      refine (Hangs_any hdF HH0.out.2.1).mono ?_
                      rintro e w' ⟨rfl, rfl⟩
                      rw [HH0.out.1]
                      have hcF := HF.out.2.2.2.1.cell
                      have hfF := HF.out.2.2.2.1.frozen
                      go_wp2_with fail
                      refine (Down_any hdF).mono ?_
                      rintro e w' ⟨rfl, rfl⟩
                      rw [HH0.out.2.2]
                      clear hdF
                      go_wp2_with fail
                      obtain ⟨hdF, hK2, hB12, hRB, hDD', hwb, hK'⟩ := HF.out
                      have hneD : D ≠ w.heap.size := by omega
                      have hneD' : D' ≠ w.heap.size := by omega
                      have hK5 : (W'.setCell ⟨w.heap.size, 0, none⟩ (.bool true)).heap[D']? = some (.deferred (some [])) := (Below.heap_setCell W' ⟨w.heap.size, 0, none⟩ (.bool true) D' hneD').trans hK'
                      have hK6 : ((W'.setCell ⟨w.heap.size, 0, none⟩ (.bool true)).putObj D' (.deferred none)).heap[D]? = some (.deferred (some [])) := (World.putObj_heap_other (by omega)).trans ((Below.heap_setCell W' ⟨w.heap.size, 0, none⟩ (.bool true) D hneD).trans hK2)
                      have hR6 : (((W'.setCell ⟨w.heap.size, 0, none⟩ (.bool true)).putObj D' (.deferred none)).putObj D (.deferred none)).cell? ⟨w.heap.size, 0, none⟩ = some (.bool true) := by
                        have h := hRB.set (.bool true)
                        have h2 : Boxed (((W'.setCell ⟨w.heap.size, 0, none⟩ (.bool true)).putObj D' (.deferred none)).putObj D (.deferred none)) w.heap.size 4 (.bool true) := (World.putObj_heap_other (by omega)).trans ((World.putObj_heap_other (by omega)).trans h)
                        exact h2.cell
                      refine ⟨by simp, .inl ⟨_, _, rfl, run_takeDeferred hK5, ⟨by simp, .inl ⟨_, _, rfl, run_takeDeferred hK6, ?_⟩⟩⟩⟩
                      refine ⟨.bool true, by simp [results, Try.f4, go_sem, hR6], rfl, ?_⟩
                      have hBf : Below w.heap.size w W' := HR.out.1.trans (hB12.mono HR.out.1.size)
                      exact ((hBf.setCell (p := ⟨w.heap.size, 0, none⟩) (Nat.le_refl _) _).trans (belowK_b (w := w) (Nat.le_refl _) _ D' _ _ (by omega) hK5 rfl rfl)).trans (belowK_b (w := w) (Nat.le_refl _) _ D _ _ (by omega) hK6 rfl rfl)
end Go.Proofs.Ytehoofddklbnaaa
