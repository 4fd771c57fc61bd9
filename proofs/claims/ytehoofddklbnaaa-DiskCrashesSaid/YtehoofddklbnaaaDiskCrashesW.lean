/- The walk of DiskCrashes. -/
import Derived.Test.YtehoofddklbnaaaKQuiet
namespace Go.Proofs.Ytehoofddklbnaaa
open Go.RowKit Go.Maps Go.Shelf
set_option linter.unusedVariables false
set_option linter.unusedSimpArgs false
attribute [local go_sem] Oper.semAt_some
attribute [-go_sem] Instr.buildSlice

set_option maxRecDepth 100000 in
set_option maxHeartbeats 4000000 in
theorem DiskCrashes_walk (v : Value) (l : List AC) (a1 a2 : Int) (w : World) (w0 : Acts w v l) (n0 : l.length ≤ 9223372036854775807) (w1 : (Lit.int .i64 a1).wf = true) (w2 : (Lit.int .i64 a2).wf = true) :
    Calls Try.prog 6 #[v, .int .i64 a1, .int .i64 a2] w fun e w' => e = .returned (.bool true) ∧ Below w.heap.size w w' := by
  have h1 : -9223372036854775808 ≤ a1 ∧ a1 ≤ 9223372036854775807 := by simpa [Lit.wf, IntKind.min, IntKind.max, IntKind.signed, IntKind.bits] using w1
  have h2 : -9223372036854775808 ≤ a2 ∧ a2 ≤ 9223372036854775807 := by simpa [Lit.wf, IntKind.min, IntKind.max, IntKind.signed, IntKind.bits] using w2
  clear w1 w2
  obtain ⟨q0, cap, qb, qo, rfl, hq1, hq2⟩ := id w0
  have HA := Lib.hid w0
  have HQ := Lib.hid (And.intro hq1 hq2)
  have HI := Lib.hid (And.intro h1 h2)
  obtain ⟨N, hN⟩ : ∃ N, l.length = N := ⟨_, rfl⟩
  have HN := Lib.hid hN
  rw [hN] at n0
  clear w0 hq1 hq2 h1 h2
  rw [hN]
  clear hN
  refine (callsIn_wide (n := 6)).1 ?_
  refine callsIn_of_wp_marks Try.func6 rfl trivial ?_ rfl
  simp only [Try.ntmps6, List.size_toArray, List.length_cons, List.length_nil, Nat.reduceAdd, Nat.reduceSub, Array.replicate_succ, Array.replicate_zero, List.push_toArray, List.append_toArray, List.nil_append, List.cons_append]
  rw [wpIn_wide]
  go_wp2_with fail
  refine awake11_any.mono ?_
  rintro e w1 ⟨rfl, hb1⟩
  have B1 : Below w.heap.size w w1 := ((Below.refl _ _).alloc (Nat.le_refl w.heap.size) _).trans (hb1.mono (by simp))
  have R1 : Boxed w1 w.heap.size 4 (.bool false) := (hb1.block _ (by simp)).trans (Boxed.new w 4 (.bool false))
  have hc1 := R1.cell
  have hf1 := R1.frozen
  clear hb1
  have HR := Lib.hid (And.intro B1 R1)
  clear B1 R1
  by_cases hbig : N ≤ 30
  rotate_left
  · have hbi : (30 : Int) < (N : Int) := by omega
    go_wp2_with fail
    have hR5 := (HR.out.2.set (.bool true)).cell
    exact ⟨.bool true, by simp [results, Try.f6, go_sem, hR5], rfl, HR.out.1.setCell (p := ⟨w.heap.size, 0, none⟩) (Nat.le_refl _) _⟩
  have hbi : decide ((30 : Int) < (N : Int)) = false := by simp; omega
  go_wp2_with fail
  refine (New_any 16 (by omega) (by omega) _).mono ?_
  rintro e w2 ⟨rfl, hD, hB2⟩
  have hd2 : DiskIs (fun k => k < w1.heap.size) w2 (w1.heap.size + 2) (newDS 16) := ⟨_, _, _, _, hD _ (fun k h => h)⟩
  clear hD
  obtain ⟨p, hp⟩ : ∃ p, w1.heap.size + 2 = p := ⟨_, rfl⟩
  rw [hp] at hd2 ⊢
  have H2 := Lib.hid (And.intro hd2 hB2)
  clear hp hd2 hB2 hc1 hf1
  go_wp2_with fail
  go_loopw [27] (fun i wr => ∃ j : Nat, i = .int .i64 j ∧ j ≤ N ∧ Hid (DiskIs (fun k => k < w1.heap.size) wr p ((l.take j).foldl DS.acted (newDS 16)) ∧ Below w1.heap.size w1 wr)) (fun i _ => N - (intOf i).toNat)
  case atStart => exact ⟨0, rfl, Nat.zero_le _, H2⟩
  case round =>
    obtain ⟨j, rfl, hj, HJ⟩ := hrel
    by_cases hlt : j < N
    · have hltI : (j : Int) < (N : Int) := by omega
      obtain ⟨hq, hcs⟩ := HQ.out
      obtain ⟨rfl, hqb⟩ := hq (by have := HN.out; omega)
      obtain ⟨hok, hrg⟩ := hcs j (by have := HN.out; omega)
      obtain ⟨c, hc⟩ : ∃ c, l.getD j default = c := ⟨_, rfl⟩
      rw [hc] at hok hrg
      have hB0 : Below w.heap.size w wr := HR.out.1.trans (HJ.out.2.mono HR.out.1.size)
      have hrw : wr.rangeAt qb (qo + j * 3) c.cells := fun k v hk => (hB0.cell (p := ⟨qb, qo + j * 3 + k, none⟩) hqb).trans (hrg k v hk)
      obtain ⟨C, hC⟩ : ∃ C, c.cells = C := ⟨_, rfl⟩
      have hCi : (Try.prog.info? 31).map (·.size) = some C.length := by rw [← hC]; kernel_rfl
      have hCo : C.toArray.all (·.oneCell') = true := by rw [← hC]; exact acts_one c
      rw [hC] at hrw
      have HC := Lib.hid (And.intro hc (And.intro hok (And.intro hrw (And.intro hCi (And.intro hCo hC)))))
      have HS := Lib.hid (Row.new wr 31 [.int .i64 0, .int .i64 0, .int .u8 0])
      clear hq hcs hqb hok hrg hc hB0 hrw hC hCi hCo
      go_wp2_with (first
        | (with_reducible refine wpList_load_mid rfl 31 (.tmp 29) rfl qb (qo + j * 3) rfl C _ HC.out.2.2.1 Try.underlying31 rfl HC.out.2.2.2.1 ?_)
        | (refine wpList_store_row rfl 31 (.tmp 10) (.tmp 30) rfl wr.heap.size C.toArray rfl rfl 31 #[.int .i64 0, .int .i64 0, .int .u8 0] HS.out (by rw [List.size_toArray]; exact HC.out.2.2.2.1) (by rw [← HC.out.2.2.2.2.2]; rfl) HC.out.2.2.2.2.1 ?_))
      have HG0 := HJ.out.1.boxed
      have hq := HS.out.put C
      have hb6 := below_setRow (B := wr.heap.size) ((Below.refl wr.heap.size wr).alloc (Nat.le_refl _) (.cells #[.int .i64 0, .int .i64 0, .int .u8 0] 31)) (Nat.le_refl _) C.toArray
      have hBn := HJ.out.2
      have hB6 := hBn.trans (hb6.mono hBn.size)
      have hd6 := HG0.below hb6
      have hcalm := calm_acts (l.take j) calm_new
      have hlen : (l.take j).length ≤ 30 := by rw [List.length_take]; omega
      have hcs : ((l.take j).foldl DS.acted (newDS 16)).steps < 1000000000 ∧ ((l.take j).foldl DS.acted (newDS 16)).hangs.length < 1000000000 := ⟨by have := hcalm.steps; omega, by have := hcalm.hangs; omega⟩
      have hg1 := hq.lt
      have hn1 := hB6.size
      obtain ⟨g, hg⟩ : ∃ g, wr.heap.size = g := ⟨_, rfl⟩
      rw [hg] at hB6 hd6 hg1 hn1 hq
      rw [hg]
      clear hb6 hBn HG0 hcalm hlen HS
      have hswap : ∀ W : World, W = (wr.alloc (Obj.cells #[Value.int IntKind.i64 0, Value.int IntKind.i64 0, Value.int IntKind.u8 0] 31)).setRow g C.toArray → W = (wr.alloc (Obj.cells #[Value.int IntKind.i64 0, Value.int IntKind.i64 0, Value.int IntKind.u8 0] 31)).setRow g C.toArray := fun W h => h
      clear hswap
      generalize (wr.alloc (Obj.cells #[Value.int IntKind.i64 0, Value.int IntKind.i64 0, Value.int IntKind.u8 0] 31)).setRow g C.toArray = wb at hq hd6 hB6 hg1 hn1 ⊢
      have HG := Lib.hid (And.intro hq (And.intro hd6 (And.intro hB6 (And.intro (And.intro hg1 hn1) hcs))))
      have HC1 : Hid (C[1]? = some (.int .i64 c.place)) := Lib.hid (by rw [← HC.out.2.2.2.2.2]; rfl)
      have HC2 : Hid (C[2]? = some (.int .u8 c.byte.toNat)) := Lib.hid (by rw [← HC.out.2.2.2.2.2]; rfl)
      clear hq hd6 hB6 hg1 hn1 hg hcs
      refine wp_region_noPanic ?_
      refine region_held_last 6 (S := fun W => SB wb W) (by kernel_rfl) (by kernel_rfl) rfl (SB.dr (SB.here wb)) (fun hHeld => ?_)
      simp only [List.take_succ_cons, List.take_zero]
      refine wpAnyH_take (i := 0) (oi := { dst := some 31, op := Op.move (Operand.tmp 7), type := 24, pos := "law.go:173", after := #[], guard := none }) (v := ?vva_0) rfl (by kernel_rfl) (by kernel_rfl) (by kernel_rfl) (fun _ _ _ h => h) (Or.inl ⟨by rfl, ?yya_0⟩) hHeld ?_
      case vva_0 => exact .pointer (some ⟨p, 0, none⟩)
      case yya_0 =>
        intro W hS
        go_simp
      try simp only [Act.put, List.setIfInBounds_toArray, List.set_cons_zero, List.set_cons_succ]
      refine wpAnyH_take (i := 1) (oi := { dst := some 32, op := Op.fieldAddr 31 (Operand.tmp 10) 1, type := 0, pos := "law.go:173", after := #[], guard := none }) (v := ?vva_1) rfl (by kernel_rfl) (by kernel_rfl) (by kernel_rfl) (fun _ _ _ h => h) (Or.inl ⟨by rfl, ?yya_1⟩) hHeld ?_
      case vva_1 => exact .pointer (some ⟨g, 1, none⟩)
      case yya_1 =>
        intro W hS
        go_simp
      try simp only [Act.put, List.setIfInBounds_toArray, List.set_cons_zero, List.set_cons_succ]
      refine wpAnyH_take (i := 2) (oi := { dst := some 33, op := Op.load 3 (Operand.tmp 32), type := 3, pos := "law.go:173", after := #[{ on := 1, ground := Ground.data }], guard := none }) (v := ?vva_2) rfl (by kernel_rfl) (by kernel_rfl) (by kernel_rfl) (fun _ _ _ h => h) (Or.inl ⟨by rfl, ?yya_2⟩) hHeld ?_
      case vva_2 => exact .int .i64 c.place
      case yya_2 =>
        intro W hS
        have q0 := (hS.row HG.out.1).cell 1
        rw [HC1.out] at q0
        go_simp
      try simp only [Act.put, List.setIfInBounds_toArray, List.set_cons_zero, List.set_cons_succ]
      refine wpAnyH_take (i := 3) (oi := { dst := some 34, op := Op.fieldAddr 31 (Operand.tmp 10) 2, type := 0, pos := "law.go:173", after := #[], guard := none }) (v := ?vva_3) rfl (by kernel_rfl) (by kernel_rfl) (by kernel_rfl) (fun _ _ _ h => h) (Or.inl ⟨by rfl, ?yya_3⟩) hHeld ?_
      case vva_3 => exact .pointer (some ⟨g, 2, none⟩)
      case yya_3 =>
        intro W hS
        go_simp
      try simp only [Act.put, List.setIfInBounds_toArray, List.set_cons_zero, List.set_cons_succ]
      refine wpAnyH_take (i := 4) (oi := { dst := some 35, op := Op.load 5 (Operand.tmp 34), type := 5, pos := "law.go:173", after := #[{ on := 3, ground := Ground.data }], guard := none }) (v := ?vva_4) rfl (by kernel_rfl) (by kernel_rfl) (by kernel_rfl) (fun _ _ _ h => h) (Or.inl ⟨by rfl, ?yya_4⟩) hHeld ?_
      case vva_4 => exact .int .u8 c.byte.toNat
      case yya_4 =>
        intro W hS
        have q0 := (hS.row HG.out.1).cell 2
        rw [HC2.out] at q0
        go_simp
      try simp only [Act.put, List.setIfInBounds_toArray, List.set_cons_zero, List.set_cons_succ]
      refine wpAnyH_ready (rs := [5]) (by kernel_rfl) (by simp) (AllReadyH.cons (o := { dst := some 36, op := Op.call { callee := Callee.value (Operand.func 15), args := #[Operand.tmp 35], argTypes := #[5] }, type := 42, pos := "law.go:173", after := #[{ on := 4, ground := Ground.data }], guard := none }) rfl (fun K hK => ?_) AllReadyH.nil)
      go_simp
      go_at_call 15
      refine (fill_any c.byte).mono ?_
      rintro e sw1 ⟨rfl, sb1⟩
      have s1 := SB.next (SB.dr (SB.here wb)) sb1
      refine hK.out _ _ s1 (fun hHeld => ?_)
      clear hK K
      try simp only [Act.put, List.setIfInBounds_toArray, List.set_cons_zero, List.set_cons_succ]
      clear sb1
      refine wpAnyH_done (by kernel_rfl) ?_ _
      show wpList _ _ _ [_] _ _
      go_wp2_with fail
      obtain ⟨gl, gm, hv, Dm, hd⟩ := HG.out.2.1.below s1
      have hBn := HG.out.2.2.1
      have hn1 := HG.out.2.2.2.1
      refine (Write_any (L := fun k => k < w1.heap.size ∨ k = g) (fun k hk => Nat.lt_of_lt_of_le (by rcases hk with h | h <;> omega) (Below.size s1)) hd c.place (fillB c.byte) (fillB_len _) (HG.out.2.2.2.2).1 (HG.out.2.2.2.2).2).mono ?_
      rintro e w6 ⟨rfl, hd6, hk6⟩
      have HJ6 : Hid (DiskIs (fun k => k < w1.heap.size) w6 p ((l.take (j + 1)).foldl DS.acted (newDS 16)) ∧ Below w1.heap.size w1 w6) := Lib.hid ⟨by
        rw [acts_snoc _ _ _ (by have := HN.out; omega), HC.out.1]
        exact hd6.less (fun k hk => .inl hk), (hBn.trans (Below.mono s1 hBn.size)).trans (hk6.below (Nat.le_trans hBn.size (Below.size s1)) (fun k hk => .inl hk))⟩
      clear hd hBn hn1 hd6 hk6
      go_wp2_with fail
      refine NoPanic.normal ?_
      go_wp2_with fail
      go_roundw
      case rel => exact ⟨j + 1, by go_num, by omega, HJ6⟩
      case measure => simp [intOf]; omega
    · have hjN : j = N := by omega
      have hge : ¬ (j : Int) < (N : Int) := by omega
      obtain ⟨hdj, hBj⟩ := HJ.out
      obtain ⟨D0, hD0⟩ : ∃ D0, l.foldl DS.acted (newDS 16) = D0 := ⟨_, rfl⟩
      have htk : l.take j = l := List.take_of_length_le (by have := HN.out; omega)
      rw [htk, hD0] at hdj
      have hcalm := calm_acts l calm_new
      rw [hD0] at hcalm
      have hNl := HN.out
      have c0 : Calm D0 (List.replicate 16 z128) 30 30 := ⟨hcalm.lasts, hcalm.fuse, hcalm.down, by have := hcalm.hangs; omega, by have := hcalm.steps; omega⟩
      have H3 := Lib.hid (And.intro hdj (And.intro hBj c0))
      clear hdj hBj hD0 htk hcalm hNl c0 HJ hjN
      go_wp2_with fail
      obtain ⟨⟨gl, gm, hv, Dm, hd⟩, hB3, c0⟩ := H3.out
      refine (Crash_any (L := fun k => k < w1.heap.size) (fun k hk => Nat.lt_of_lt_of_le hk hB3.size) hd a1 HI.out.1.1 HI.out.1.2 (by have := c0.hangs; omega)).mono ?_
      rintro e w4 ⟨rfl, hd4, hk4⟩
      have hB4 := hB3.trans (hk4.below hB3.size (fun k h => h))
      have c4 := c0.crashed a1
      obtain ⟨D1, hD1⟩ : ∃ D1, D0.crashed a1 = D1 := ⟨_, rfl⟩
      obtain ⟨L1, hL1⟩ : ∃ L1, kept D0.hangs (List.replicate 16 z128) a1 = L1 := ⟨_, rfl⟩
      rw [hD1] at hd4 c4
      rw [hL1] at c4
      have H4 := Lib.hid (And.intro hd4 (And.intro hB4 c4))
      clear hd hB3 c0 hd4 hk4 hB4 c4 hD1 hL1 H3
      go_wp2_with fail
      refine ((callsIn_wide (n := 0)).1 (All_in 0 (some ⟨p, 0, none⟩) _)).mono ?_
      rintro e w5 ⟨rfl, rfl⟩
      go_wp2_with fail
      obtain ⟨⟨gl, gm, hv, Dm, hd⟩, hB4, c4⟩ := H4.out
      have bO := Boxed.new w4 33 (.slice none 0 0)
      have bN := Boxed.new (w4.alloc (.cells #[.slice none 0 0] 33)) 24 (.pointer (some ⟨p, 0, none⟩))
      have bO2 := bO.alloc (.cells #[.pointer (some ⟨p, 0, none⟩)] 24)
      have hSB : SB w4 ((w4.alloc (.cells #[.slice none 0 0] 33)).alloc (.cells #[.pointer (some ⟨p, 0, none⟩)] 24)) := SB.al (SB.al (SB.here w4) _) _
      have hd5 := (DiskIs.more (L' := fun k => k < w1.heap.size ∨ w4.heap.size ≤ k) ⟨gl, gm, hv, Dm, hd⟩ (fun g h => h)).below hSB
      have hd6 := hd.below hSB
      have hB5 := hB4.trans (Below.mono hSB hB4.size)
      have hsz : ((w4.alloc (.cells #[.slice none 0 0] 33)).alloc (.cells #[.pointer (some ⟨p, 0, none⟩)] 24)).heap.size = w4.heap.size + 2 := by rw [World.size_alloc, World.size_alloc]
      have hpl := hd.row.lt
      have hgl := hd.las.lt
      have hRB := (hB4.block _ HR.out.2.lt).trans HR.out.2
      rw [World.size_alloc] at bN
      have hb1 := HR.out.2.lt
      have hb4 := hB4.size
      obtain ⟨bx, hbx⟩ : ∃ bx, w4.heap.size = bx := ⟨_, rfl⟩
      rw [hbx] at bN bO2 hsz hpl hgl hb4 hd5
      rw [hbx]
      generalize (w4.alloc (.cells #[.slice none 0 0] 33)).alloc (.cells #[.pointer (some ⟨p, 0, none⟩)] 24) = wl at bN bO2 hd5 hd6 hB5 hsz ⊢
      clear bO hSB hRB hbx
      obtain ⟨row, las⟩ := And.intro hd6.row hd6.las
      have hgood := hd6.good
      have h8 : ∀ b ∈ L1, b.length = 128 := by have h := hgood.rows; rwa [c4.lasts] at h
      have hm : L1.length ≤ 4096 := by have h := hgood.most; rwa [c4.lasts] at h
      have hm16 : 16 ≤ L1.length := by have h := hgood.least; rwa [c4.lasts] at h
      rw [c4.lasts] at row las
      obtain ⟨i0, hi0, hz0, hz1, hz2⟩ := info_parts blk_info3
      have hInit : Coll (bx + 2) bx wl L1 [] wl := ⟨⟨_, bO2, World.ownsRow_nil _ _ _ _, trivial⟩, Keeps.refl _ _⟩
      have HD := Lib.hid (And.intro hd5 (And.intro hB5 c4))
      have HL := Lib.hid (And.intro h8 (And.intro hm hm16))
      have HP := Lib.hid (And.intro hpl (And.intro hgl (And.intro hb1 hb4)))
      clear hd5 hd6 hB5 c4 hgood hd hB4 H4
      rw [← wpIn_wide (n := 6)]
      refine' wpIn_rangeFunc_ownH rfl (by omega) (gf := 31) (lb := #[.pointer (some ⟨bx + 1, 0, none⟩)]) rfl trivial (enters_of Try.func31 (by kernel_rfl) rfl)
        (All_stops 5 (by omega) (bx + 1) p gl L1 _ h8 hm wl bN row las) keepsA_t (keepsA_b (by omega) (by omega) (by omega)) (Below.refl _ _) (fun _ => rfl)
        (Coll (bx + 2) bx wl L1) (fun _ _ _ => False) (coll_own L1 (Nat.le_refl _)) (fun _ _ _ _ _ hs _ _ => hs) hInit
        (fun x a' W => ∃ g, (a' = { tmps := #[Value.slice q0 N cap, Value.int IntKind.i64 a1, Value.int IntKind.i64 a2, undef, undef, undef, Value.pointer (some { block := w.heap.size, off := 0 }), Value.pointer (some { block := p, off := 0 }), Value.int IntKind.i64 0, undef, u10, Value.pointer (some { block := bx, off := 0 }), undef, Value.pointer (some ⟨g, 0, none⟩), undef, undef, Value.bool true, Value.bool false, Value.slice q0 N cap, Value.int IntKind.i64 ↑N, Value.bool false, Value.tuple #[Value.pointer (some { block := p, off := 0 }), Value.int IntKind.i64 0], Value.tuple #[Value.pointer (some { block := p, off := 0 }), Value.int IntKind.i64 0], Value.pointer (some { block := p, off := 0 }), Value.int IntKind.i64 0, Value.slice q0 N cap, Value.int IntKind.i64 ↑N, Value.int IntKind.i64 ↑j, Value.bool false, u29, u30, u31, u32, u33, u34, u35, u36, u37, u38, Value.pointer (some { block := p, off := 0 }), Value.int IntKind.i64 a1, Value.tuple #[], Value.pointer (some { block := p, off := 0 }), Value.func (Fn.func 31) #[] #[Value.pointer (some { block := bx + 1, off := 0 })], Value.int IntKind.i64 (x.1 : Nat), Value.agg ((L1.getD x.1 []).map bv).toArray, undef, undef, undef, undef, undef, undef, undef, undef, undef, undef, undef, undef, undef, undef, undef, undef, undef, undef, undef, undef, undef, undef, undef, undef, undef, undef, undef, undef, undef, undef, undef, undef], defers := [] } ∧ bx + 2 ≤ g) ∧ Row W g 42 ((L1.getD x.1 []).map bv))
        (fun x a' => ax_own _) ?hassign ?hbody ?hdone ?hstop
      case hstop =>
        rintro D c pre W _ _ h _
        exact h.elim
      case hassign =>
        intro l' pre x W K hI hK
        unfold allArgs blkV
        have hx8 : (L1.getD x.1 []).length = 128 := getD_len HL.out.1 x.2
        obtain ⟨hsb, hrow⟩ := boxed_blk W (L1.getD x.1 [])
        have hnew := Row.new W 42 zB
        have hone := blkV_one (L1.getD x.1 [])
        have hszA := blk_sizeA _ hx8
        have hzl : zB.toArray.size = ((L1.getD x.1 []).map bv).toArray.size := by rw [List.size_toArray, List.size_toArray, List.length_map, hx8, zB_len]
        have hI2 : Coll (bx + 2) bx wl L1 pre _ := own_below (coll_own (nl := bx + 2) (bx := bx) (w0 := wl) (B := bx + 2) L1 (by omega)) hI hsb
        have hW2 : bx + 2 ≤ W.heap.size := by have := hI.2.size; omega
        obtain ⟨cs, hcs⟩ : ∃ cs, ((L1.getD x.1 []).map bv).toArray = cs := ⟨_, rfl⟩
        have HX := Lib.hid (And.intro hsb (And.intro hrow (And.intro hI2 (And.intro hone (And.intro hszA (And.intro hzl hW2))))))
        have HCS := Lib.hid hcs
        have hz := (zero_of_info zB_info).1
        clear hsb hrow hone hszA hzl hI2 hW2
        rw [hcs] at HX ⊢
        clear hcs
        gi_wp2_with (refine wpIn_store_row 42 (.tmp 13) (.tmp 45) rfl W.heap.size cs rfl rfl 42 zB.toArray hnew HX.out.2.2.2.2.1 HX.out.2.2.2.2.2.1 HX.out.2.2.2.1 ?_)
        refine hK _ _ ((below_others HX.out.1).from _) (keepsA_of (L := fun _ => True) (Keeps.of_below HX.out.1 (fun _ h _ => h)) trivial trivial trivial ?_ ?_ ?_) HX.out.2.2.1 ⟨W.heap.size, ⟨?_, HX.out.2.2.2.2.2.2⟩, HX.out.2.1⟩
        · have := HX.out.2.2.2.2.2.2; omega
        · have := HX.out.2.2.2.2.2.2; omega
        · have := HX.out.2.2.2.2.2.2; omega
        · rw [HCS.out]
      case hbody =>
        rintro l' pre x a' W hl' hrec ⟨⟨v, hv, hown, _⟩, hk⟩ ⟨g, ⟨rfl, hg⟩, hrow⟩ hlt
        have hc := hv.cell
        have hx8 : (L1.getD x.1 []).length = 128 := getD_len HL.out.1 x.2
        have hgs := gath_snoc L1 pre x
        have hbs := bvs_one (L1.getD x.1 [])
        have hszC := blk_size _ hx8
        have hpl' : pre.length < 4096 := by have := HL.out.2.1; omega
        have hWs := hk.size
        have hWg : g < W.heap.size := hrow.lt
        obtain ⟨C, hC⟩ : ∃ C, (L1.getD x.1 []).map bv = C := ⟨_, rfl⟩
        have hCl : C.length = 128 := by rw [← hC, List.length_map, hx8]
        rw [hC] at hrow hgs hbs hszC
        rw [hC]
        have hrng := row_range hrow 0 C.length (by omega)
        rw [List.drop_zero, List.take_of_length_le (Nat.le_refl _)] at hrng
        have hld := run_loadAt_mid (P := Try.prog) W g 0 42 C _ hrng Try.underlying42 rfl hszC
        have hob := one_block C hCl W
        have HX := Lib.hid (And.intro hv (And.intro hown (And.intro hk (And.intro hgs (And.intro hbs hCl)))))
        clear hrow hgs hbs hszC hrng hC hx8 hlt
        gi_wp2_with (first
          | (refine wpIn_load_eq (g := g) rfl rfl hld ?_)
          | (refine wpIn_buildSlice_eq 33 1 _ rfl #[(0, .agg C.toArray)] _ _ rfl hob ?_)
          | (gi_at_builtin; refine wpListIn_append_own _ rfl (.tmp 46) (.tmp 48) 33 rfl (bx + 2) 42 i0 (.agg zB.toArray) 128 128 Try.underlying33 hi0 hz0 hz1 hz2 rfl (by decide) v _ _ rfl (HX.out.2.1.alloc _) ⟨W.heap.size, 0, none⟩ 1 1 C rfl (by rw [HX.out.2.2.2.2.2]) (World.news_of_block (cs := C.toArray) (t := 42) (fr := (0, 0)) (heap_alloc_new W _)) HX.out.2.2.2.2.1 (by unfold maxLen; omega) (by omega) (by rw [World.size_alloc]; omega) ?_; intro v' w6 hown' hgrow _; obtain ⟨g', cap', rfl⟩ := ownsRow_succ hown'; obtain ⟨hv1, hv2, hr2, hk2, hb2⟩ := box_append (L := fun k => k < bx + 2 ∧ k ≠ bx) HX.out.1 (by decide) HX.out.2.1 hown' hgrow (fun h => h.2 rfl) (fun k h => h.1); have hc1 := hv1.cell; have hf1 := hv1.frozen))
        have hWn := HX.out.2.2.1.size
        refine ⟨hk2.from _, keepsA_of hb2 ⟨by omega, by omega⟩ ⟨by omega, by omega⟩ ⟨by omega, by omega⟩ (by omega) (by omega) (by omega), ⟨⟨_, hv2, ?_, trivial⟩, HX.out.2.2.1.trans hb2⟩⟩
        rw [HX.out.2.2.2.1, List.length_append]
        exact hr2
      case hdone =>
        rintro D xs W hD hS ⟨⟨v, hv, hown, _⟩, hk⟩ hK
        have hxl : xs.length = L1.length := by have h := congrArg List.length hS; simpa using h
        rw [gath_all L1 xs hS, hxl] at hown
        obtain ⟨gw, cp, rfl, hgw, hgl2⟩ := hown.form (by have := HL.out.2.2; omega)
        have hdW : DiskIs (fun k => k < w1.heap.size ∨ bx ≤ k) W p D1 := (show DiskIs (fun k => k < w1.heap.size ∨ bx ≤ k) wl p D1 from HD.out.1).keeps hk (fun g h1 h2 => by omega)
        clear hS hxl
        have hDl : bx + 2 ≤ D := by omega
        have hb4 := HP.out.2.2.2
        have hBW : Below w1.heap.size w1 W := HD.out.2.1.trans (hk.below (Nat.le_trans hb4 (by omega)) (fun k h => ⟨by omega, by omega⟩))
        have hWD : D < W.heap.size := (Array.getElem?_eq_some_iff.1 hK).1
        have hWs := hk.size
        have hd6 : DiskIs (fun k => k < w1.heap.size ∨ k = bx ∨ k = gw ∨ k = D) W p D1 := hdW.less (fun k h => by omega)
        have HW := Lib.hid (And.intro hv (And.intro hown hK))
        have HN6 := Lib.hid (show (bx < W.heap.size ∧ gw < W.heap.size ∧ D < W.heap.size) ∧ w1.heap.size ≤ W.heap.size ∧ bx + 2 ≤ gw ∧ bx + 2 ≤ D ∧ gw ≠ D from ⟨⟨by omega, hgl2, hWD⟩, by omega, hgw, hDl, fun e => by
          subst e
          rcases hown.2 with ⟨h0, _⟩ | ⟨g', c', cu, h0, _, hh, _⟩
          · cases h0
          · injection h0 with h0
            injection h0 with h0
            injection h0 with h0
            subst h0
            rw [hK] at hh
            cases hh⟩)
        have H7 := Lib.hid (And.intro hd6 hBW)
        clear hv hown hK hdW hd6 hBW hWD hDl hb4 hWs hk hgw hgl2 hInit bO2 bN row las h8 hm hm16 hi0 hz0 hz1 hz2
        clear i0
        obtain ⟨sp, hwas⟩ := was_own HW.out.2.1
        have HWAS := Lib.hid hwas
        clear hwas
        obtain ⟨LP, hLP⟩ : ∃ LP : Nat → Prop, (fun k => k < w1.heap.size ∨ k = bx ∨ k = gw ∨ k = D) = LP := ⟨_, rfl⟩
        have HLP : Hid (LP bx ∧ LP gw ∧ LP D ∧ (∀ k, k < w1.heap.size → LP k) ∧ ∀ k, LP k → k < W.heap.size) := Lib.hid (by
          have hn := HN6.out
          rw [← hLP]
          exact ⟨.inr (.inl rfl), .inr (.inr (.inl rfl)), .inr (.inr (.inr rfl)), fun k h => .inl h, fun k h => by rcases h with h | h | h | h <;> omega⟩)
        rw [hLP] at H7
        have H12B := Lib.hid H7.out.2
        clear hLP
        go_wp2_with fail
        obtain ⟨⟨gl', gm', hv', Dm', hd⟩, hBW⟩ := H7.out
        have c4 := HD.out.2.2
        refine (Crash_any (L := LP) HLP.out.2.2.2.2 hd a2 HI.out.2.1 HI.out.2.2 (by have := c4.hangs; omega)).mono ?_
        rintro e w5 ⟨rfl, hd5, hk5⟩
        have c5 := c4.crashed0 a2
        obtain ⟨D2, hD2⟩ : ∃ D2, D1.crashed a2 = D2 := ⟨_, rfl⟩
        rw [hD2] at hd5 c5
        have H8 := Lib.hid (And.intro hd5 (And.intro hk5 c5))
        clear hd hBW c4 hd5 hk5 c5 hD2 H7
        go_wp2_with fail
        refine fill_one.mono ?_
        rintro e w6 ⟨rfl, hb6⟩
        obtain ⟨b1, hb1'⟩ : ∃ b1, fillB 1 = b1 := ⟨_, rfl⟩
        have hb1l : b1.length = 128 := by rw [← hb1']; exact fillB_len 1
        have HB1 := Lib.hid (And.intro hb1' hb1l)
        rw [hb1']
        have H9 := Lib.hid hb6
        clear hb1' hb1l hb6
        go_wp2_with fail
        obtain ⟨hd5, hk5, c5⟩ := H8.out
        obtain ⟨gl6, gm6, hv6, Dm6, hd6⟩ := hd5.below H9.out
        have hL6 : ∀ k, LP k → k < w6.heap.size := fun k hk => Nat.lt_of_lt_of_le (HLP.out.2.2.2.2 k hk) (Nat.le_trans hk5.size H9.out.size)
        refine (Write_any (L := LP) hL6 hd6 3 b1 HB1.out.2 (by have := c5.steps; omega) (by have := c5.hangs; omega)).mono ?_
        rintro e w7 ⟨rfl, hd7, hk7⟩
        have c7 := c5.written 3 b1
        have hk67 : Keeps LP W w7 := (hk5.trans (Keeps.of_below H9.out (fun k h _ => h))).trans hk7
        have hset := c5.one 3 (by have := HL.out.2.2; omega) b1
        rw [show ((3 : Nat) : Int) = 3 from rfl] at hset
        obtain ⟨D3, hD3⟩ : ∃ D3, D2.written 3 b1 = D3 := ⟨_, rfl⟩
        obtain ⟨e3, he3⟩ : ∃ e3, D2.writeErr 3 = e3 := ⟨_, rfl⟩
        rw [hD3] at hd7 c7 hset
        rw [he3]
        have H10 := Lib.hid (And.intro hd7 (And.intro hk67 (And.intro c7 hset)))
        clear hd5 hk5 c5 hd6 hL6 hd7 hk7 c7 hk67 hset hD3 he3 H8 H9
        go_wp2_with fail
        obtain ⟨⟨gl7, gm7, hv7, Dm7, hd7⟩, hk7, c7, hset⟩ := H10.out
        have hL7 : ∀ k, LP k → k < w7.heap.size := fun k hk => Nat.lt_of_lt_of_le (HLP.out.2.2.2.2 k hk) hk7.size
        refine (Sync_any (L := LP) hL7 hd7 (by have := c7.steps; omega) (by have := c7.hangs; omega)).mono ?_
        rintro e w8 ⟨rfl, hd8, hk8⟩
        have c8 := c7.synced
        rw [hset] at c8
        rw [c7.err]
        obtain ⟨D4, hD4⟩ : ∃ D4, D3.synced = D4 := ⟨_, rfl⟩
        rw [hD4] at hd8 c8
        have H11 := Lib.hid (And.intro hd8 (And.intro (hk7.trans hk8) c8))
        clear hd7 hk7 c7 hset hL7 hd8 hk8 c8 hD4 H10
        go_wp2_with fail
        have hk8 := H11.out.2.1
        have hbox8 : Boxed w8 bx 33 (.slice (some ⟨gw, 0, none⟩) L1.length cp) := (hk8.block bx HN6.out.1.1 HLP.out.1).trans HW.out.1
        have hwas8 : WasAt w8 gw L1 sp := (hk8.block gw HN6.out.1.2.1 HLP.out.2.1).trans HWAS.out
        have hlt3 : (3 : Int) < (L1.length : Nat) := by have := HL.out.2.2; omega
        obtain ⟨C1, hC1⟩ : ∃ C1, b1.map bv = C1 := ⟨_, rfl⟩
        have hC1l : C1.length = 128 := by rw [← hC1, List.length_map, HB1.out.2]
        have hC1i : (Try.prog.info? 42).map (·.size) = some C1.toArray.size := by rw [← hC1]; exact blk_sizeA b1 HB1.out.2
        have hC1o : C1.toArray.all (·.oneCell') = true := by rw [← hC1]; exact blkV_one b1
        have HFL : Hid (∀ W, Calls Try.prog 15 #[.int .u8 1] W fun e w' => e = .returned (.agg C1.toArray) ∧ Below W.heap.size W w') := Lib.hid (fun W => by
          have h := fill_one (w := W)
          rw [HB1.out.1] at h
          unfold blkV at h
          rw [hC1] at h
          exact h)
        have HG := Lib.hid (And.intro hbox8 (And.intro hwas8 (And.intro hC1l (And.intro hC1i (And.intro hC1o hC1)))))
        clear hk8 hbox8 hwas8 hC1 hC1l hC1i hC1o
        refine wp_region_noPanic ?_
        refine region_held_last 3 (S := fun W => SB w8 W) (by kernel_rfl) (by kernel_rfl) rfl (SB.dr (SB.here w8)) (fun hHeld => ?_)
        simp only [List.take_succ_cons, List.take_zero]
        refine wpAnyH_take (i := 0) (oi := { dst := some 59, op := Op.load 33 (Operand.tmp 11), type := 33, pos := "law.go:185", after := #[], guard := none }) (v := ?vvb_0) rfl (by kernel_rfl) (by kernel_rfl) (by kernel_rfl) (fun _ _ _ h => h) (Or.inl ⟨by rfl, ?yyb_0⟩) hHeld ?_
        case vvb_0 => exact .slice (some ⟨gw, 0, none⟩) L1.length cp
        case yyb_0 =>
          intro W hS
          have q0 := (SB.row (l := [.slice (some ⟨gw, 0, none⟩) L1.length cp]) hS HG.out.1).cell 0
          simp only [List.getElem?_cons_zero] at q0
          go_simp
        try simp only [Act.put, List.setIfInBounds_toArray, List.set_cons_zero, List.set_cons_succ]
        refine wpAnyH_ready (rs := [1]) (by kernel_rfl) (by simp) (AllReadyH.cons (o := { dst := some 60, op := Op.call { callee := Callee.value (Operand.func 15), args := #[Operand.const (Value.int IntKind.u8 1)], argTypes := #[5] }, type := 42, pos := "law.go:185", after := #[], guard := none }) rfl (fun K hK => ?_) AllReadyH.nil)
        go_simp
        go_at_call 15
        refine (HFL.out _).mono ?_
        rintro e tw1 ⟨rfl, tb1⟩
        have t1 := SB.next (SB.dr (SB.here w8)) tb1
        refine hK.out _ _ t1 (fun hHeld => ?_)
        clear hK K
        try simp only [Act.put, List.setIfInBounds_toArray, List.set_cons_zero, List.set_cons_succ]
        clear tb1
        refine wpAnyH_take (i := 2) (oi := { dst := some 61, op := Op.indexAddr 33 (Operand.tmp 59) (Operand.const (Value.int IntKind.i64 3)), type := 0, pos := "law.go:185", after := #[{ on := 0, ground := Ground.data }, { on := 0, ground := Ground.phase }, { on := 1, ground := Ground.phase }], guard := none }) (v := ?vvb_2) rfl (by kernel_rfl) (by kernel_rfl) (by kernel_rfl) (fun _ _ _ h => h) (Or.inl ⟨by rfl, ?yyb_2⟩) hHeld ?_
        case vvb_2 => exact .pointer (some ⟨gw, 384, none⟩)
        case yyb_2 =>
          intro W hS
          go_simp
        try simp only [Act.put, List.setIfInBounds_toArray, List.set_cons_zero, List.set_cons_succ]
        refine wpAnyH_done (by kernel_rfl) ?_ _
        show wpList _ _ _ [_] _ _
        have hwasT : WasAt tw1 gw L1 sp := (Below.block t1 gw HG.out.2.1.lt).trans HG.out.2.1
        have hth := WasAt.there hwasT HL.out.1 (i := 3) (by have := HL.out.2.2; omega)
        have hset := WasAt.set hwasT HL.out.1 3 (by have := HL.out.2.2; omega) b1 HB1.out.2
        rw [HG.out.2.2.2.2.2] at hset
        rw [show 3 * 128 = 384 from rfl] at hth hset
        refine wpList_store_mid rfl 42 (.tmp 61) (.tmp 60) rfl gw 384 C1.toArray rfl rfl (by rw [List.size_toArray, HG.out.2.2.1]; exact hth) HG.out.2.2.2.1 HG.out.2.2.2.2.1 ?_
        show NoPanic _ Exit.normal _ _
        refine NoPanic.normal ?_
        try simp only [Act.put, List.setIfInBounds_toArray, List.set_cons_zero, List.set_cons_succ, List.toList_toArray]
        have hgr := setCells_grown tw1 gw 384 C1
        have hkM : Keeps (fun k => k ≠ gw) tw1 (tw1.setCells gw 384 C1) := (Keeps.refl _ _).grown hgr (fun g e => .inl (fun h => h (by injection e with e; exact e.symm)))
        have hk8 := H11.out.2.1
        have hk9 : Keeps (fun k => LP k ∧ k ≠ gw) W (tw1.setCells gw 384 C1) := ((hk8.mono (fun k h => h.1)).trans (Keeps.of_below t1 (fun k h _ => h))).trans (hkM.mono (fun k h => h.2))
        have hn6 := HN6.out
        have hd9 : DiskIs LP (tw1.setCells gw 384 C1) p D4 := (H11.out.1.below t1).keeps hkM (fun g h1 h2 e => h2 (by rw [e]; exact HLP.out.2.1))
        have hbox9 : Boxed (tw1.setCells gw 384 C1) bx 33 (.slice (some ⟨gw, 0, none⟩) L1.length cp) := (hk9.block bx hn6.1.1 ⟨HLP.out.1, by omega⟩).trans HW.out.1
        have hK9 : (tw1.setCells gw 384 C1).heap[D]? = some (.deferred (some [])) := (hk9.block D hn6.1.2.2 ⟨HLP.out.2.2.1, Ne.symm hn6.2.2.2.2⟩).trans HW.out.2.2
        have hB9 : Below w1.heap.size w1 (tw1.setCells gw 384 C1) := H12B.out.trans (hk9.below hn6.2.1 (fun k h => ⟨HLP.out.2.2.2.1 k h, by have := HP.out.2.2.2; omega⟩))
        have hs9 := hk9.size
        obtain ⟨L2, hL2⟩ : ∃ L2, L1.set 3 b1 = L2 := ⟨_, rfl⟩
        have hL2l : L2.length = L1.length := by rw [← hL2, List.length_set]
        have hL28 : ∀ b ∈ L2, b.length = 128 := by rw [← hL2]; exact set_rows HL.out.1 3 b1 HB1.out.2
        have c9 := H11.out.2.2
        rw [hL2] at hset c9
        generalize tw1.setCells gw 384 C1 = w9 at hset hd9 hbox9 hK9 hB9 hs9 ⊢
        have H12 := Lib.hid (And.intro hd9 (And.intro hbox9 (And.intro hset (And.intro hK9 (And.intro hB9 (And.intro c9 hs9))))))
        have HL2 := Lib.hid (And.intro hL28 hL2l)
        clear hwasT hth hset hgr hkM hk8 hk9 hn6 hd9 hbox9 hK9 hB9 hs9 hL2 hL2l hL28 c9 t1 hHeld
        go_wp2_with fail
        obtain ⟨⟨gl9, gm9, hv9, Dm9, hd9⟩, hbox9, hwas9, hK9, hB9, c9, hs9⟩ := H12.out
        have hL9 : ∀ k, LP k → k < w9.heap.size := fun k hk => Nat.lt_of_lt_of_le (HLP.out.2.2.2.2 k hk) hs9
        refine (Crash_any (L := LP) hL9 hd9 a2 HI.out.2.1 HI.out.2.2 (by have := c9.hangs; omega)).mono ?_
        rintro e w10 ⟨rfl, hd10, hk10⟩
        have c10 := c9.crashed0 a2
        obtain ⟨D5, hD5⟩ : ∃ D5, D4.crashed a2 = D5 := ⟨_, rfl⟩
        rw [hD5] at hd10 c10
        have hn6 := HN6.out
        have hbox10 : Boxed w10 bx 33 (.slice (some ⟨gw, 0, none⟩) L1.length cp) := (hk10.block bx (by omega) HLP.out.1).trans hbox9
        have hwas10 : WasAt w10 gw L2 sp := (hk10.block gw (by omega) HLP.out.2.1).trans hwas9
        have hK10 : w10.heap[D]? = some (.deferred (some [])) := (hk10.block D (by omega) HLP.out.2.2.1).trans hK9
        have hB10 := hB9.trans (hk10.below (by omega) (fun k h => HLP.out.2.2.2.1 k h))
        have hs10 : W.heap.size ≤ w10.heap.size := Nat.le_trans hs9 hk10.size
        have H13 := Lib.hid (And.intro hd10 (And.intro hbox10 (And.intro hwas10 (And.intro hK10 (And.intro hB10 (And.intro c10 hs10))))))
        clear hd9 hbox9 hwas9 hK9 hB9 c9 hs9 hL9 hd10 hk10 c10 hD5 hn6 hbox10 hwas10 hK10 hB10 hs10 H12
        go_wp2_with fail
        refine ((callsIn_wide (n := 0)).1 (All_in 0 (some ⟨p, 0, none⟩) _)).mono ?_
        rintro e w11 ⟨rfl, rfl⟩
        go_wp2_with fail
        obtain ⟨⟨glA, gmA, hvA, DmA, hdA⟩, hbox10, hwas10, hK10, hB10, c10, hs10⟩ := H13.out
        have bM := Boxed.new w10 24 (.pointer (some ⟨p, 0, none⟩))
        have hSM : SB w10 (w10.alloc (.cells #[.pointer (some ⟨p, 0, none⟩)] 24)) := SB.al (SB.here w10) _
        have hdM := hdA.below hSM
        have hszM : (w10.alloc (.cells #[.pointer (some ⟨p, 0, none⟩)] 24)).heap.size = w10.heap.size + 1 := by rw [World.size_alloc]
        have hplM := hdA.row.lt
        have hglM := hdA.las.lt
        obtain ⟨bn, hbn⟩ : ∃ bn, w10.heap.size = bn := ⟨_, rfl⟩
        rw [hbn] at bM hszM hplM hglM
        rw [hbn]
        have hboxM := (hSM.block bx (by have := HN6.out; omega)).trans hbox10
        have hwasM := (hSM.block gw (by have := HN6.out; omega)).trans hwas10
        have hKM := (hSM.block D (by have := HN6.out; omega)).trans hK10
        have hBM := hB10.trans (Below.mono hSM hB10.size)
        generalize w10.alloc (.cells #[.pointer (some ⟨p, 0, none⟩)] 24) = wm at bM hdM hszM hboxM hwasM hKM hBM ⊢
        obtain ⟨row, las⟩ := And.intro hdM.row hdM.las
        rw [c10.lasts] at row las
        have h8 := HL2.out.1
        have hm : L2.length ≤ 4096 := by have := HL2.out.2; have := HL.out.2.1; omega
        have HM := Lib.hid (And.intro (show DiskIs LP wm p D5 from ⟨_, _, _, _, hdM⟩) (And.intro (show Boxed wm bx 33 (.slice (some ⟨gw, 0, none⟩) L1.length cp) from hboxM) (And.intro (show WasAt wm gw L2 sp from hwasM) (And.intro hKM (And.intro hBM (And.intro c10 (show W.heap.size ≤ wm.heap.size by omega)))))))
        have HPM := Lib.hid (And.intro hplM (And.intro hglM hszM))
        clear hdA hbox10 hwas10 hK10 hB10 c10 hs10 hSM hdM hboxM hwasM hKM hBM H13 hbn
        rw [← wpIn_wide (n := 6)]
        refine' wpIn_rangeFunc_ownH rfl (by omega) (gf := 31) (lb := #[.pointer (some ⟨bn, 0, none⟩)]) rfl trivial (enters_of Try.func31 (by kernel_rfl) rfl)
          (All_stops 5 (by omega) bn p glA L2 _ h8 hm wm bM row las) keepsA_t (keepsA_b (by omega) (by omega) (by omega)) (Below.refl _ _) (fun _ => rfl)
          (fun _ W => Keeps (fun _ => True) wm W) (fun _ _ _ => False) (ownFrom_keeps (Nat.le_refl _)) (fun _ _ _ _ _ hs _ _ => hs) (Keeps.refl _ _)
          (fun x a' W => ∃ g, (a' = { tmps := #[Value.slice q0 N cap, Value.int IntKind.i64 a1, Value.int IntKind.i64 a2, undef, undef, undef, Value.pointer (some { block := w.heap.size, off := 0 }), Value.pointer (some { block := p, off := 0 }), Value.int IntKind.i64 0, undef, u10, Value.pointer (some { block := bx, off := 0 }), undef, undef, Value.int IntKind.i64 (x.1 : Nat), Value.pointer (some ⟨g, 0, none⟩), Value.bool true, Value.bool false, Value.slice q0 N cap, Value.int IntKind.i64 ↑N, Value.bool false, Value.tuple #[Value.pointer (some { block := p, off := 0 }), Value.int IntKind.i64 0], Value.tuple #[Value.pointer (some { block := p, off := 0 }), Value.int IntKind.i64 0], Value.pointer (some { block := p, off := 0 }), Value.int IntKind.i64 0, Value.slice q0 N cap, Value.int IntKind.i64 ↑N, Value.int IntKind.i64 ↑j, Value.bool false, u29, u30, u31, u32, u33, u34, u35, u36, u37, u38, Value.pointer (some { block := p, off := 0 }), Value.int IntKind.i64 a1, Value.tuple #[], Value.pointer (some { block := p, off := 0 }), Value.func (Fn.func 31) #[] #[Value.pointer (some { block := bx + 1, off := 0 })], undef, undef, undef, undef, undef, undef, Value.pointer (some { block := p, off := 0 }), Value.int IntKind.i64 a2, Value.tuple #[], Value.pointer (some { block := p, off := 0 }), blkV b1, Value.int IntKind.i64 e3, Value.pointer (some { block := p, off := 0 }), Value.int IntKind.i64 0, Value.bool false, Value.slice (some { block := gw, off := 0 }) L1.length cp, Value.agg C1.toArray, Value.pointer (some { block := gw, off := 384 }), Value.pointer (some { block := p, off := 0 }), Value.int IntKind.i64 a2, Value.tuple #[], Value.pointer (some { block := p, off := 0 }), Value.func (Fn.func 31) #[] #[Value.pointer (some { block := bn, off := 0 })], Value.int IntKind.i64 (x.1 : Nat), Value.agg ((L2.getD x.1 []).map bv).toArray, undef, undef, undef, undef, undef, undef, undef, undef, undef], defers := [] }) ∧ Row W g 42 ((L2.getD x.1 []).map bv))
          (fun x a' => ax_own _) ?hassign2 ?hbody2 ?hdone2 ?hstop2
        case hstop2 =>
          rintro D c pre W _ _ h _
          exact h.elim
        case hassign2 =>
          intro l' pre x W K hI hK
          unfold allArgs
          rw [show blkV (L2.getD x.1 []) = Value.agg ((L2.getD x.1 []).map bv).toArray from rfl]
          have hx8 : (L2.getD x.1 []).length = 128 := getD_len HL2.out.1 x.2
          obtain ⟨hsb, hrow⟩ := boxed_blk W (L2.getD x.1 [])
          have hnew := Row.new W 42 zB
          have hone := blkV_one (L2.getD x.1 [])
          have hszA := blk_sizeA _ hx8
          have hzl : zB.toArray.size = ((L2.getD x.1 []).map bv).toArray.size := by rw [List.size_toArray, List.size_toArray, List.length_map, hx8, zB_len]
          have hI2 := hI.trans (Keeps.of_below (L := fun _ => True) hsb (fun _ h _ => h))
          have hW2 : wm.heap.size ≤ W.heap.size := hI.size
          obtain ⟨cs, hcs⟩ : ∃ cs, ((L2.getD x.1 []).map bv).toArray = cs := ⟨_, rfl⟩
          have HX := Lib.hid (And.intro hsb (And.intro hrow (And.intro hI2 (And.intro hone (And.intro hszA (And.intro hzl hW2))))))
          have HCS := Lib.hid hcs
          have hz := (zero_of_info zB_info).1
          clear hsb hrow hone hszA hzl hI2 hW2
          rw [hcs] at HX ⊢
          clear hcs
          gi_wp2_with (refine wpIn_store_row 42 (.tmp 15) (.tmp 68) rfl W.heap.size cs rfl rfl 42 zB.toArray hnew HX.out.2.2.2.2.1 HX.out.2.2.2.2.2.1 HX.out.2.2.2.1 ?_)
          refine hK _ _ ((below_others HX.out.1).from _) (keepsA_of (L := fun _ => True) (Keeps.of_below HX.out.1 (fun _ h _ => h)) trivial trivial trivial ?_ ?_ ?_) HX.out.2.2.1 ⟨W.heap.size, ?_, HX.out.2.1⟩
          · have := HX.out.2.2.2.2.2.2; have := HPM.out.2.2; omega
          · have := HX.out.2.2.2.2.2.2; have := HPM.out.2.2; omega
          · have := HX.out.2.2.2.2.2.2; have := HPM.out.2.2; omega
          · rw [HCS.out]
        case hbody2 =>
          rintro l' pre x a' W hl' hrec hI ⟨g, rfl, hrow⟩ hlt
          have hx8 : (L2.getD x.1 []).length = 128 := getD_len HL2.out.1 x.2
          have hszC := blk_size _ hx8
          have hwasW : WasAt W gw L2 sp := (hI.block gw (by have := HN6.out; have := HM.out.2.2.2.2.2.2; omega) trivial).trans HM.out.2.2.1
          have hboxW : Boxed W bx 33 (.slice (some ⟨gw, 0, none⟩) L1.length cp) := (hI.block bx (by have := HN6.out; have := HM.out.2.2.2.2.2.2; omega) trivial).trans HM.out.2.1
          have hdif := fun W => blk_differ (L2.getD x.1 []) hx8 W
          unfold blkV at hdif
          have hxlt : ((x.1 : Nat) : Int) < (L1.length : Nat) := by have := x.2; have := HL2.out.2; omega
          have hW2 : wm.heap.size ≤ W.heap.size := hI.size
          have hrngW : ∀ W', SB W W' → W'.rangeAt gw (x.1 * 128) ((L2.getD x.1 []).map bv) := fun W' h => WasAt.range ((h.block gw (Row.lt hwasW)).trans hwasW) HL2.out.1 x.2
          have hrngG : ∀ W', SB W W' → W'.rangeAt g 0 ((L2.getD x.1 []).map bv) := fun W' h => by
            have h := row_range (h.row hrow) 0 ((L2.getD x.1 []).map bv).length (by omega)
            rwa [List.drop_zero, List.take_of_length_le (Nat.le_refl _)] at h
          obtain ⟨C, hC⟩ : ∃ C, (L2.getD x.1 []).map bv = C := ⟨_, rfl⟩
          obtain ⟨xi, hxi⟩ : ∃ xi, x.1 = xi := ⟨_, rfl⟩
          rw [hC] at hszC hdif hrngW hrngG
          rw [hxi] at hrngW hxlt
          rw [hC, hxi]
          have HX := Lib.hid (And.intro hboxW (And.intro hszC (And.intro hdif (And.intro hrngW (And.intro hrngG (And.intro hI hW2))))))
          clear hx8 hszC hwasW hboxW hdif hrngW hrngG hC hxi hrow hlt hW2
          gi_wp2
          refine round_quiet_lit (SB W) (by kernel_rfl) (by kernel_rfl) (by kernel_rfl) (below_drewN (Below.refl _ _) 1) ?_
          refine wpQuiet_yields (.agg C.toArray) (yieldsIf_load_mid (by rfl) 42 (.tmp 15) rfl g 0 rfl C _ (fun W h => HX.out.2.2.2.2.1 W h) Try.underlying42 rfl HX.out.2.1) ?_
          try simp only [Act.put, List.setIfInBounds_toArray, List.set_cons_zero, List.set_cons_succ]
          refine wpQuiet_yields (.slice (some ⟨gw, 0, none⟩) L1.length cp) (Or.inl ⟨by rfl, fun W' hS => ?ya⟩) ?_
          case ya =>
            have q0 := (SB.row (l := [.slice (some ⟨gw, 0, none⟩) L1.length cp]) hS HX.out.1).cell 0
            simp only [List.getElem?_cons_zero] at q0
            go_simp
          try simp only [Act.put, List.setIfInBounds_toArray, List.set_cons_zero, List.set_cons_succ]
          refine wpQuiet_yields (.int .i64 (xi : Nat)) (Or.inl ⟨by rfl, fun W' hS => by go_simp⟩) ?_
          try simp only [Act.put, List.setIfInBounds_toArray, List.set_cons_zero, List.set_cons_succ]
          refine wpQuiet_yields (.pointer (some ⟨gw, xi * 128, none⟩)) (Or.inl ⟨by rfl, fun W' hS => by go_simp⟩) ?_
          try simp only [Act.put, List.setIfInBounds_toArray, List.set_cons_zero, List.set_cons_succ]
          refine wpQuiet_yields (.agg C.toArray) (yieldsIf_load_mid (by rfl) 42 (.tmp 72) rfl gw (xi * 128) rfl C _ (fun W h => HX.out.2.2.2.1 W h) Try.underlying42 rfl HX.out.2.1) ?_
          try simp only [Act.put, List.setIfInBounds_toArray, List.set_cons_zero, List.set_cons_succ]
          refine wpQuiet_yields (.bool false) (yields_neq (by rfl) _ _ _ _ rfl C.toArray rfl rfl (by kernel_rfl) HX.out.2.2.1) ?_
          try simp only [Act.put, List.setIfInBounds_toArray, List.set_cons_zero, List.set_cons_succ]
          refine wpQuiet_nil ?_
          intro wf hwf
          gi_wp2
          have hn := HPM.out
          have hWn := HX.out.2.2.2.2.2.2
          refine ⟨(below_others hwf).from _, keepsA_of (L := fun _ => True) (Keeps.of_below hwf (fun _ h _ => h)) trivial trivial trivial (by omega) (by omega) (by omega), HX.out.2.2.2.2.2.1.trans (Keeps.of_below hwf (fun _ h _ => h))⟩
        case hdone2 =>
          rintro D' xs W' hD' hS hI hK'
          obtain ⟨hdm, hbox, hwas, hKm, hBm, c10, hsm⟩ := HM.out
          have hn6 := HN6.out
          have hd12 : DiskIs LP W' p D5 := hdm.keeps hI (fun _ _ _ => trivial)
          have hK2 : W'.heap[D]? = some (.deferred (some [])) := (hI.block D (by omega) trivial).trans hKm
          have hB12 : Below w1.heap.size w1 W' := hBm.trans (hI.below (Nat.le_trans hn6.2.1 hsm) (fun _ _ => trivial))
          have hRB : Boxed W' w.heap.size 4 (.bool false) := (hB12.block _ HP.out.2.2.1).trans HR.out.2
          have hDD' : D < D' := by omega
          have hrb := HP.out.2.2.1
          have hwb : w.heap.size < D := by have := HP.out.2.2.2; omega
          have HF := Lib.hid (And.intro hd12 (And.intro hK2 (And.intro hB12 (And.intro hRB (And.intro hDD' (And.intro hwb hK'))))))
          have h0 : ((D5.hangs.length : Nat) : Int) * 128 = 0 := by rw [c10.empty]; rfl
          have h0l : D5.hangs.length ≤ 1000000000 := by rw [c10.empty]; decide
          have HH0 := Lib.hid (And.intro h0 h0l)
          clear hdm hbox hwas hKm hBm c10 hsm hn6 hd12 hK2 hB12 hRB hDD' hrb hwb hK' h0 h0l hS hI hD'
          go_wp2_with fail
          obtain ⟨glF, gmF, hvF, DmF, hdF⟩ := HF.out.1
          refine (Hangs_any hdF HH0.out.2).mono ?_
          rintro e w' ⟨rfl, rfl⟩
          rw [HH0.out.1]
          have hcF := HF.out.2.2.2.1.cell
          have hfF := HF.out.2.2.2.1.frozen
          clear hdF
          go_wp2_with fail
          obtain ⟨hdF, hK2, hB12, hRB, hDD', hwb, hK'⟩ := HF.out
          have hneD : D ≠ w.heap.size := by omega
          have hneD' : D' ≠ w.heap.size := by omega
          have hK5 : (W'.setCell ⟨w.heap.size, 0, none⟩ (.bool true)).heap[D']? = some (.deferred (some [])) := (Below.heap_setCell W' ⟨w.heap.size, 0, none⟩ (.bool true) D' hneD').trans hK'
          have hK6 : ((W'.setCell ⟨w.heap.size, 0, none⟩ (.bool true)).putObj D' (.deferred none)).heap[D]? = some (.deferred (some [])) := (World.putObj_heap_other (by omega)).trans ((Below.heap_setCell W' ⟨w.heap.size, 0, none⟩ (.bool true) D hneD).trans hK2)
          have hR6 : (((W'.setCell ⟨w.heap.size, 0, none⟩ (.bool true)).putObj D' (.deferred none)).putObj D (.deferred none)).cell? ⟨w.heap.size, 0, none⟩ = some (.bool true) := by
            have h := hRB.set (.bool true)
            have h2 : Boxed (((W'.setCell ⟨w.heap.size, 0, none⟩ (.bool true)).putObj D' (.deferred none)).putObj D (.deferred none)) w.heap.size 4 (.bool true) := (World.putObj_heap_other (by omega)).trans ((World.putObj_heap_other (by omega)).trans h)
            exact h2.cell
          refine ⟨by simp, .inl ⟨_, _, rfl, run_takeDeferred hK5, ⟨by simp, .inl ⟨_, _, rfl, run_takeDeferred hK6, ?_⟩⟩⟩⟩
          refine ⟨.bool true, by simp [results, Try.f6, go_sem, hR6], rfl, ?_⟩
          have hBf : Below w.heap.size w W' := HR.out.1.trans (hB12.mono HR.out.1.size)
          exact ((hBf.setCell (p := ⟨w.heap.size, 0, none⟩) (Nat.le_refl _) _).trans (belowK_b (w := w) (Nat.le_refl _) _ D' _ _ (by omega) hK5 rfl rfl)).trans (belowK_b (w := w) (Nat.le_refl _) _ D _ _ (by omega) hK6 rfl rfl)
end Go.Proofs.Ytehoofddklbnaaa
