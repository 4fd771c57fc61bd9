/- The walk of VersionParses. -/
import Derived.Test.YtcimcnlonepbcaaDoorVersionOrderW
import Derived.Test.YtcimcnlonepbcaaDoorVRWithin
namespace Go.Proofs.YtcimcnlonepbcaaDoor
open Go.RowKit
set_option linter.unusedVariables false

theorem spl_len (r : List UInt8) : ∀ t, (spl t r).length ≤ r.length + 1 := by
  induction r with
  | nil => intro t; simp [spl]
  | cons c r ih =>
    intro t
    rw [spl]
    split
    · have := ih []; simp; omega
    · have := ih (t ++ [c]); simp; omega
/-- Where the text is no version. -/
theorem refVParse_not (s : ByteArray) (W : World) (hs : s.size ≤ 100) (hp : pv s.data.toList = none) :
    Calls Tryd.prog 8 #[.string s] W fun e w' => ∃ (a : Option Addr) (n cap : Nat), (e = .returned (.tuple #[.slice a n cap, .bool false]) ∧ n ≤ 101) ∧ Below W.heap.size W w' := by
  refine (refVParse_any s W (by omega)).mono ?_
  intro e w' h
  rcases h with ⟨h1, rfl, hB⟩ | ⟨ns, va, h1, rfl, hO, hB⟩
  · exact ⟨none, 0, 0, ⟨rfl, by omega⟩, hB⟩
  · obtain ⟨a, cap, rfl⟩ := own_form hO
    refine ⟨a, ns.length, cap, ⟨?_, ?_⟩, hB⟩
    · rw [decide_eq_false]
      intro h3
      rw [rpo_pv, h1] at hp
      match ns, h3, hp with
      | [x, y, z], _, hp => cases hp
    · have h2 := rpo_len _ _ h1
      have h3 := spl_len s.data.toList []
      have h4 : s.data.toList.length = s.size := by simp
      omega
theorem buildCmp (a b : V3) (g1 g2 : Nat) (W : World) (h1 : Row W g1 3 [.int .i64 a.1, .int .i64 a.2.1, .int .i64 a.2.2]) (h2 : Row W g2 3 [.int .i64 b.1, .int .i64 b.2.1, .int .i64 b.2.2]) :
    Calls Tryd.prog 11 #[.slice (some ⟨g1, 0, none⟩) 3 3, .slice (some ⟨g2, 0, none⟩) 3 3] W fun e w' => e = .returned (.int .i64 (cmpV a b)) ∧ ∃ q, w' = W.drewN q := by
  refine refCmp_v a b g1 g2 3 3 W (fun i hi => ?_) (fun i hi => ?_)
  · rw [h1.cell i]
    rcases (by omega : i = 0 ∨ i = 1 ∨ i = 2) with rfl | rfl | rfl <;> rfl
  · rw [h2.cell i]
    rcases (by omega : i = 0 ∨ i = 1 ∨ i = 2) with rfl | rfl | rfl <;> rfl
theorem rows2 (w : World) (o1 o2 : List Value) (t : TypeId) :
    Row ((w.alloc (.cells o1.toArray t)).alloc (.cells o2.toArray t)) w.heap.size t o1 ∧ Row ((w.alloc (.cells o1.toArray t)).alloc (.cells o2.toArray t)) (w.heap.size + 1) t o2 ∧ Below w.heap.size w ((w.alloc (.cells o1.toArray t)).alloc (.cells o2.toArray t)) := by
  refine ⟨(Row.new w t o1).alloc _, ?_, ((Below.refl _ _).alloc (Nat.le_refl _) _).alloc (by simp) _⟩
  have h := Row.new (w.alloc (.cells o1.toArray t)) t o2
  rwa [World.size_alloc] at h

theorem row_dr {w : World} {g : Nat} {t : TypeId} {l : List Value} (h : Row w g t l) (q : Nat) : Row (w.drewN q) g t l := by
  unfold Row at h ⊢
  rw [show (w.drewN q).heap = w.heap by simp [World.drewN]]
  exact h
theorem veq_same (a b c : Nat) (W : World) : (Op.equalIn 10000 24 (.agg #[.int .u16 a, .int .u16 b, .int .u16 c]) (.agg #[.int .u16 a, .int .u16 b, .int .u16 c])).run Tryd.prog W = .ok true W := by
  have h := veq_in a b c a b c W
  rw [decide_eq_true rfl] at h
  exact h
theorem veq_zero (W : World) : (Op.equalIn 10000 24 (.agg #[.int .u16 0, .int .u16 0, .int .u16 0]) (.agg #[.int .u16 0, .int .u16 0, .int .u16 0])).run Tryd.prog W = .ok true W := veq_same 0 0 0 W

set_option maxRecDepth 100000 in
set_option maxHeartbeats 4000000 in
theorem Parses_not (s : ByteArray) (x1 y1 z1 x2 y2 z2 : Nat) (hs : s.size ≤ 100) (ha : x1 ≤ 65535 ∧ y1 ≤ 65535 ∧ z1 ≤ 65535) (hb : x2 ≤ 65535 ∧ y2 ≤ 65535 ∧ z2 ≤ 65535) (hp : pv s.data.toList = none) (w : World) (hG : VG w) (hN : NV w) :
    Calls Tryd.prog 3 #[.string s, .agg #[.int .u16 x1, .int .u16 y1, .int .u16 z1], .agg #[.int .u16 x2, .int .u16 y2, .int .u16 z2]] w fun e w' => e = .returned (.bool true) ∧ Below w.heap.size w w' := by
  have H0 := Lib.hid (rows2 w [.int .u16 x1, .int .u16 y1, .int .u16 z1] [.int .u16 x2, .int .u16 y2, .int .u16 z2] 24)
  have HP := Lib.hid (fun W h => VParse_any s (by omega) W h)
  rw [hp] at HP
  have HRP := Lib.hid (fun W => refVParse_not s W hs hp)
  have TA := Lib.hid (fun W h => VText_any x1 y1 z1 ha.1 ha.2.1 ha.2.2 W h)
  change Hid (∀ W, T10 W → Calls Tryd.prog 9 #[vv x1 y1 z1] W fun e w' => e = .returned (.string (vsB (x1, y1, z1))) ∧ Below W.heap.size W w') at TA
  have PA := Lib.hid (fun W h => VParse_any (vsB (x1, y1, z1)) (vsB_size (x1, y1, z1) ha) W h)
  rw [show pv (vsB (x1, y1, z1)).data.toList = some (x1, y1, z1) from by
    unfold vsB
    rw [show (⟨(verL x1 y1 z1).toArray⟩ : ByteArray).data.toList = verL x1 y1 z1 by simp]
    exact pv_verL ha.1 ha.2.1 ha.2.2] at PA
  obtain ⟨S, hS⟩ : ∃ S, vsB (x1, y1, z1) = S := ⟨_, rfl⟩
  rw [hS] at TA PA
  have CC := Lib.hid (fun W => Cmp_v (x1, y1, z1) (x2, y2, z2) W)
  have CR := Lib.hid (fun g1 g2 W h1 h2 => buildCmp (x1, y1, z1) (x2, y2, z2) g1 g2 W h1 h2)
  have crg := cmpV_range (x1, y1, z1) (x2, y2, z2)
  obtain ⟨c, hc⟩ : ∃ c, cmpV (x1, y1, z1) (x2, y2, z2) = c := ⟨_, rfl⟩
  rw [hc] at CC CR crg
  obtain ⟨cl, ch⟩ := crg
  have qs := veq_same x1 y1 z1
  have qz := veq_zero
  obtain ⟨ha0, ha1, ha2⟩ := ha
  obtain ⟨hb0, hb1, hb2⟩ := hb
  have HG := Lib.hid hG
  have HN := Lib.hid hN
  have hsI : (s.size : Int) ≤ 100 := by omega
  simp only [parseR, vv] at HP TA PA CC
  clear hG hN hp hs hS hc
  go_enter Tryd.func3, Tryd.ntmps3
  go_wp2_with fail
  obtain ⟨hr0, hr1, hb0⟩ := H0.out
  generalize (w.alloc (.cells [.int .u16 x1, .int .u16 y1, .int .u16 z1].toArray 24)).alloc (.cells [.int .u16 x2, .int .u16 y2, .int .u16 z2].toArray 24) = wa at hr0 hr1 hb0 ⊢
  refine (awake17_any _ (HG.out.below hb0) (HN.out.below hb0)).mono ?_
  rintro e w2 ⟨rfl, hb2⟩
  have HB2 := Lib.hid (hb0.trans (hb2.mono hb0.size))
  have HR2 := Lib.hid (And.intro (hr0.below hb2 hr0.lt) (hr1.below hb2 hr1.lt))
  clear hr0 hr1 hb0 hb2 H0
  go_wp2_with fail
  refine (HP.out _ (HG.out.below HB2.out)).mono ?_
  rintro e w3 ⟨rfl, hb3⟩
  have HB3 := Lib.hid (HB2.out.trans (hb3.mono HB2.out.size))
  have HR3 := Lib.hid (And.intro (HR2.out.1.below hb3 HR2.out.1.lt) (HR2.out.2.below hb3 HR2.out.2.lt))
  clear hb3 HB2 HR2
  go_wp2_with fail
  refine (HRP.out _).mono ?_
  rintro e w4 ⟨la, n, lcap, ⟨rfl, hn⟩, hb4⟩
  have hch := chainB HB3.out _ hb4
  have HB4 := Lib.hid hch.1
  have HV4 := Lib.hid (row_of hch.2.1)
  have hsz34 : w3.heap.size < w4.heap.size := hch.2.2
  have hb34 : Below w3.heap.size w3 w4 := ((Below.refl _ _).alloc (Nat.le_refl _) _).trans (hb4.mono (by simp))
  have HR4 := Lib.hid (And.intro (HR3.out.1.below hb34 HR3.out.1.lt) (HR3.out.2.below hb34 HR3.out.2.lt))
  obtain ⟨vb, hvb⟩ : ∃ vb, w3.heap.size = vb := ⟨_, rfl⟩
  rw [hvb] at HV4 hsz34
  rw [hvb]
  clear hb4 hch hb34 HB3 HR3 hvb
  have k0 := HV4.out.cell 0
  have k1 := HV4.out.cell 1
  have k2 := HV4.out.cell 2
  simp only [List.getElem?_cons_zero, List.getElem?_cons_succ] at k0 k1 k2
  go_wp2_with fail
  go_loopw [50] (fun i wr => ∃ k q : Nat, k ≤ n ∧ i = .int .i64 k ∧ wr = w4.drewN q) (fun i _ => n - (intOf i).toNat)
  case atStart => exact ⟨0, 0, by omega, rfl, rfl⟩
  case round =>
    obtain ⟨k, q, hk, rfl, rfl⟩ := hrel
    by_cases hlt : k < n
    · have hltI : (k : Int) < (n : Int) := by omega
      go_wp2
      go_quiet (fail)
      go_wp2
      refine ⟨⟨k + 1, q + nq, by omega, by go_num, by simp⟩, by simp [intOf]; omega⟩
    · have hltI : ¬ (k : Int) < (n : Int) := by omega
      obtain ⟨w5, hw5⟩ : ∃ W, w4.drewN q = W := ⟨_, rfl⟩
      have HB5 : Hid (Below w.heap.size w w5) := Lib.hid (by rw [← hw5]; exact below_dr HB4.out q)
      have HRa : Hid (Row w5 w.heap.size 24 [.int .u16 x1, .int .u16 y1, .int .u16 z1]) := Lib.hid (by rw [← hw5]; exact row_dr HR4.out.1 q)
      have HRb : Hid (Row w5 (w.heap.size + 1) 24 [.int .u16 x2, .int .u16 y2, .int .u16 z2]) := Lib.hid (by rw [← hw5]; exact row_dr HR4.out.2 q)
      have HRv : Hid (Row w5 vb 24 [.int .u16 0, .int .u16 0, .int .u16 0]) := Lib.hid (by rw [← hw5]; exact row_dr HV4.out q)
      rw [hw5]
      clear HB4 HR4 HV4 k0 k1 k2 hsz34 hw5
      have p0 := HRa.out.cell 0
      have p1 := HRa.out.cell 1
      have p2 := HRa.out.cell 2
      simp only [List.getElem?_cons_zero, List.getElem?_cons_succ] at p0 p1 p2
      go_wp2_with fail
      refine (TA.out _ (HG.out.below HB5.out).t10).mono ?_
      rintro e w6 ⟨rfl, hb6⟩
      have HB6 := Lib.hid (HB5.out.trans (hb6.mono HB5.out.size))
      have Hb6 := Lib.hid hb6
      clear hb6 p0 p1 p2
      go_wp2_with fail
      refine (PA.out _ (HG.out.below HB6.out)).mono ?_
      rintro e w7 ⟨rfl, hb7⟩
      have HB7 := Lib.hid (HB6.out.trans (hb7.mono HB6.out.size))
      have Hb7 := Lib.hid (Hb6.out.trans (hb7.mono Hb6.out.size))
      obtain ⟨w8, hw8⟩ : ∃ W, w7.alloc (.cells #[.int .u16 x1, .int .u16 y1, .int .u16 z1] 24) = W := ⟨_, rfl⟩
      have HB8 : Hid (Below w.heap.size w w8) := Lib.hid (by rw [← hw8]; exact HB7.out.alloc HB7.out.size _)
      have HRa8 : Hid (Row w8 w.heap.size 24 [.int .u16 x1, .int .u16 y1, .int .u16 z1]) := Lib.hid (by rw [← hw8]; exact (HRa.out.below Hb7.out HRa.out.lt).alloc _)
      have HRb8 : Hid (Row w8 (w.heap.size + 1) 24 [.int .u16 x2, .int .u16 y2, .int .u16 z2]) := Lib.hid (by rw [← hw8]; exact (HRb.out.below Hb7.out HRb.out.lt).alloc _)
      have HRv8 : Hid (Row w8 vb 24 [.int .u16 0, .int .u16 0, .int .u16 0]) := Lib.hid (by rw [← hw8]; exact (HRv.out.below Hb7.out HRv.out.lt).alloc _)
      have HRx8 : Hid (Row w8 w7.heap.size 24 [.int .u16 x1, .int .u16 y1, .int .u16 z1]) := Lib.hid (by rw [← hw8]; exact row_alloc w7 _ _ _ _)
      have l0 := HRa8.out.lt
      have l1 := HRb8.out.lt
      have l2 := HRv8.out.lt
      have l3 := HRx8.out.lt
      clear hb7 Hb6 Hb7 HB5 HRa HRb HRv
      have p0 := HRa8.out.cell 0
      have p1 := HRa8.out.cell 1
      have p2 := HRa8.out.cell 2
      simp only [List.getElem?_cons_zero, List.getElem?_cons_succ] at p0 p1 p2
      have q0 := HRb8.out.cell 0
      have q1 := HRb8.out.cell 1
      have q2 := HRb8.out.cell 2
      simp only [List.getElem?_cons_zero, List.getElem?_cons_succ] at q0 q1 q2
      have u0 := HRx8.out.cell 0
      have u1 := HRx8.out.cell 1
      have u2 := HRx8.out.cell 2
      simp only [List.getElem?_cons_zero, List.getElem?_cons_succ] at u0 u1 u2
      have t0 := HRv8.out.cell 0
      have t1 := HRv8.out.cell 1
      have t2 := HRv8.out.cell 2
      simp only [List.getElem?_cons_zero, List.getElem?_cons_succ] at t0 t1 t2
      have R10 := Lib.hid (rows2 w8 [.int .i64 x1, .int .i64 y1, .int .i64 z1] [.int .i64 x2, .int .i64 y2, .int .i64 z2] 3)
      go_wp2_with fail
      obtain ⟨rp, rq, hB10⟩ := R10.out
      have ra10 := (HRa8.out.alloc (.cells [.int .i64 x1, .int .i64 y1, .int .i64 z1].toArray 3)).alloc (.cells [.int .i64 x2, .int .i64 y2, .int .i64 z2].toArray 3)
      have rb10 := (HRb8.out.alloc (.cells [.int .i64 x1, .int .i64 y1, .int .i64 z1].toArray 3)).alloc (.cells [.int .i64 x2, .int .i64 y2, .int .i64 z2].toArray 3)
      have rx10 := (HRx8.out.alloc (.cells [.int .i64 x1, .int .i64 y1, .int .i64 z1].toArray 3)).alloc (.cells [.int .i64 x2, .int .i64 y2, .int .i64 z2].toArray 3)
      generalize (w8.alloc (.cells [.int .i64 x1, .int .i64 y1, .int .i64 z1].toArray 3)).alloc (.cells [.int .i64 x2, .int .i64 y2, .int .i64 z2].toArray 3) = w10 at rp rq hB10 ra10 rb10 rx10 ⊢
      have HB10 := Lib.hid (HB8.out.trans (hB10.mono HB8.out.size))
      have HP10 := Lib.hid (And.intro rp rq)
      have HX10 := Lib.hid (And.intro ra10 (And.intro rb10 rx10))
      clear rp rq hB10 ra10 rb10 rx10 p0 p1 p2 q0 q1 q2 u0 u1 u2 t0 t1 t2 l0 l1 l2 l3 R10 HRa8 HRb8 HRv8 HRx8
      refine (CC.out _).mono ?_
      rintro e w11 ⟨rfl, hb11⟩
      have HB11 := Lib.hid (HB10.out.trans (hb11.mono HB10.out.size))
      have HP11 := Lib.hid (And.intro (HP10.out.1.below hb11 HP10.out.1.lt) (HP10.out.2.below hb11 HP10.out.2.lt))
      clear hb11
      go_wp2_with fail
      refine (CR.out _ _ _ HP11.out.1 HP11.out.2).mono ?_
      rintro e w12 ⟨rfl, q2, rfl⟩
      go_wp2
      go_ret
      exact ⟨ret_boolE (by simp), below_dr HB11.out q2⟩

set_option maxRecDepth 100000 in
set_option maxHeartbeats 4000000 in
theorem Parses_is (s : ByteArray) (x1 y1 z1 x2 y2 z2 : Nat) (v0 v1 v2 : Nat) (hv : v0 ≤ 65535 ∧ v1 ≤ 65535 ∧ v2 ≤ 65535) (hs : s.size ≤ 100) (ha : x1 ≤ 65535 ∧ y1 ≤ 65535 ∧ z1 ≤ 65535) (hb : x2 ≤ 65535 ∧ y2 ≤ 65535 ∧ z2 ≤ 65535) (hp : pv s.data.toList = some (v0, v1, v2)) (hsv : vsB (v0, v1, v2) = s) (w : World) (hG : VG w) (hN : NV w) :
    Calls Tryd.prog 3 #[.string s, .agg #[.int .u16 x1, .int .u16 y1, .int .u16 z1], .agg #[.int .u16 x2, .int .u16 y2, .int .u16 z2]] w fun e w' => e = .returned (.bool true) ∧ Below w.heap.size w w' := by
  have H0 := Lib.hid (rows2 w [.int .u16 x1, .int .u16 y1, .int .u16 z1] [.int .u16 x2, .int .u16 y2, .int .u16 z2] 24)
  have HP := Lib.hid (fun W h => VParse_any s (by omega) W h)
  rw [hp] at HP
  have HRP := Lib.hid (fun W => refVParse_v s W (by omega))
  rw [hp] at HRP
  have TV := Lib.hid (fun W h => VText_any v0 v1 v2 hv.1 hv.2.1 hv.2.2 W h)
  change Hid (∀ W, T10 W → Calls Tryd.prog 9 #[vv v0 v1 v2] W fun e w' => e = .returned (.string (vsB (v0, v1, v2))) ∧ Below W.heap.size W w') at TV
  rw [hsv] at TV
  simp only [vv] at TV
  obtain ⟨hv0, hv1, hv2⟩ := hv
  clear hsv
  have TA := Lib.hid (fun W h => VText_any x1 y1 z1 ha.1 ha.2.1 ha.2.2 W h)
  change Hid (∀ W, T10 W → Calls Tryd.prog 9 #[vv x1 y1 z1] W fun e w' => e = .returned (.string (vsB (x1, y1, z1))) ∧ Below W.heap.size W w') at TA
  have PA := Lib.hid (fun W h => VParse_any (vsB (x1, y1, z1)) (vsB_size (x1, y1, z1) ha) W h)
  rw [show pv (vsB (x1, y1, z1)).data.toList = some (x1, y1, z1) from by
    unfold vsB
    rw [show (⟨(verL x1 y1 z1).toArray⟩ : ByteArray).data.toList = verL x1 y1 z1 by simp]
    exact pv_verL ha.1 ha.2.1 ha.2.2] at PA
  obtain ⟨S, hS⟩ : ∃ S, vsB (x1, y1, z1) = S := ⟨_, rfl⟩
  rw [hS] at TA PA
  have CC := Lib.hid (fun W => Cmp_v (x1, y1, z1) (x2, y2, z2) W)
  have CR := Lib.hid (fun g1 g2 W h1 h2 => buildCmp (x1, y1, z1) (x2, y2, z2) g1 g2 W h1 h2)
  have crg := cmpV_range (x1, y1, z1) (x2, y2, z2)
  obtain ⟨c, hc⟩ : ∃ c, cmpV (x1, y1, z1) (x2, y2, z2) = c := ⟨_, rfl⟩
  rw [hc] at CC CR crg
  obtain ⟨cl, ch⟩ := crg
  have qs := veq_same x1 y1 z1
  have qz := veq_zero
  obtain ⟨ha0, ha1, ha2⟩ := ha
  obtain ⟨hb0, hb1, hb2⟩ := hb
  have HG := Lib.hid hG
  have HN := Lib.hid hN
  have hsI : (s.size : Int) ≤ 100 := by omega
  simp only [parseR, vv] at HP TA PA CC
  clear hG hN hp hs hS hc
  go_enter Tryd.func3, Tryd.ntmps3
  go_wp2_with fail
  obtain ⟨hr0, hr1, hb0⟩ := H0.out
  generalize (w.alloc (.cells [.int .u16 x1, .int .u16 y1, .int .u16 z1].toArray 24)).alloc (.cells [.int .u16 x2, .int .u16 y2, .int .u16 z2].toArray 24) = wa at hr0 hr1 hb0 ⊢
  refine (awake17_any _ (HG.out.below hb0) (HN.out.below hb0)).mono ?_
  rintro e w2 ⟨rfl, hb2⟩
  have HB2 := Lib.hid (hb0.trans (hb2.mono hb0.size))
  have HR2 := Lib.hid (And.intro (hr0.below hb2 hr0.lt) (hr1.below hb2 hr1.lt))
  clear hr0 hr1 hb0 hb2 H0
  go_wp2_with fail
  refine (HP.out _ (HG.out.below HB2.out)).mono ?_
  rintro e w3 ⟨rfl, hb3⟩
  have HB3 := Lib.hid (HB2.out.trans (hb3.mono HB2.out.size))
  have HR3 := Lib.hid (And.intro (HR2.out.1.below hb3 HR2.out.1.lt) (HR2.out.2.below hb3 HR2.out.2.lt))
  clear hb3 HB2 HR2
  go_wp2_with fail
  refine (HRP.out _).mono ?_
  rintro e w4 ⟨va, rfl, hva, hb4⟩
  obtain ⟨g, lcap, rfl, hgl, hgc⟩ := hva _ rfl
  have HGC := Lib.hid (And.intro hgl hgc)
  clear hva hgl hgc
  simp only [Option.isSome_some]
  have hch := chainB HB3.out _ hb4
  have HB4 := Lib.hid hch.1
  have HV4 := Lib.hid (row_of hch.2.1)
  have hsz34 : w3.heap.size < w4.heap.size := hch.2.2
  have hb34 : Below w3.heap.size w3 w4 := ((Below.refl _ _).alloc (Nat.le_refl _) _).trans (hb4.mono (by simp))
  have HR4 := Lib.hid (And.intro (HR3.out.1.below hb34 HR3.out.1.lt) (HR3.out.2.below hb34 HR3.out.2.lt))
  obtain ⟨vb, hvb⟩ : ∃ vb, w3.heap.size = vb := ⟨_, rfl⟩
  rw [hvb] at HV4 hsz34
  rw [hvb]
  clear hb4 hch hb34 HB3 HR3 hvb
  have k0 := HV4.out.cell 0
  have k1 := HV4.out.cell 1
  have k2 := HV4.out.cell 2
  simp only [List.getElem?_cons_zero, List.getElem?_cons_succ] at k0 k1 k2
  go_wp2_with fail
  go_loopw [50] (fun i wr => ∃ k q : Nat, k ≤ 3 ∧ i = .int .i64 k ∧ wr = w4.drewN q) (fun i _ => 3 - (intOf i).toNat)
  case atStart => exact ⟨0, 0, by omega, rfl, rfl⟩
  case round =>
    obtain ⟨k, q, hk, rfl, rfl⟩ := hrel
    by_cases hlt : k < 3
    · have l0 : ∀ n, (w4.drewN n).cell? ⟨g, k, none⟩ = some (.int .i64 (get3 (v0, v1, v2) k : Nat)) := fun n => by rw [World.cell?_drewN]; exact HGC.out.2 k hlt
      have l1 : ∀ n, (w4.drewN n).cell? ⟨vb, k, none⟩ = [Value.int .u16 v0, Value.int .u16 v1, Value.int .u16 v2][k]? := fun n => by rw [World.cell?_drewN]; exact HV4.out.cell k
      have hltI : (k : Int) < 3 := by omega
      rcases (by omega : k = 0 ∨ k = 1 ∨ k = 2) with rfl | rfl | rfl
      all_goals
        simp only [get3, List.getD_cons_zero, List.getD_cons_succ, List.getElem?_cons_zero, List.getElem?_cons_succ] at l0 l1
        go_wp2
        go_quiet (fail)
        go_wp2
        exact ⟨⟨_, q + nq, by first | exact (by decide : (1 : Nat) ≤ 3) | exact (by decide : (2 : Nat) ≤ 3) | exact (by decide : (3 : Nat) ≤ 3), rfl, by simp⟩, by simp [intOf]⟩
    · obtain rfl : k = 3 := by omega
      obtain ⟨w5, hw5⟩ : ∃ W, w4.drewN q = W := ⟨_, rfl⟩
      have HB5 : Hid (Below w.heap.size w w5) := Lib.hid (by rw [← hw5]; exact below_dr HB4.out q)
      have HRa : Hid (Row w5 w.heap.size 24 [.int .u16 x1, .int .u16 y1, .int .u16 z1]) := Lib.hid (by rw [← hw5]; exact row_dr HR4.out.1 q)
      have HRb : Hid (Row w5 (w.heap.size + 1) 24 [.int .u16 x2, .int .u16 y2, .int .u16 z2]) := Lib.hid (by rw [← hw5]; exact row_dr HR4.out.2 q)
      have HRv : Hid (Row w5 vb 24 [.int .u16 v0, .int .u16 v1, .int .u16 v2]) := Lib.hid (by rw [← hw5]; exact row_dr HV4.out q)
      rw [hw5]
      clear HB4 HR4 HV4 k0 k1 k2 hsz34 hw5
      have p0 := HRa.out.cell 0
      have p1 := HRa.out.cell 1
      have p2 := HRa.out.cell 2
      simp only [List.getElem?_cons_zero, List.getElem?_cons_succ] at p0 p1 p2
      go_wp2_with fail
      refine (TA.out _ (HG.out.below HB5.out).t10).mono ?_
      rintro e w6 ⟨rfl, hb6⟩
      have HB6 := Lib.hid (HB5.out.trans (hb6.mono HB5.out.size))
      have Hb6 := Lib.hid hb6
      clear hb6 p0 p1 p2
      go_wp2_with fail
      refine (PA.out _ (HG.out.below HB6.out)).mono ?_
      rintro e w7 ⟨rfl, hb7⟩
      have HB7 := Lib.hid (HB6.out.trans (hb7.mono HB6.out.size))
      have Hb7 := Lib.hid (Hb6.out.trans (hb7.mono Hb6.out.size))
      obtain ⟨w8, hw8⟩ : ∃ W, w7.alloc (.cells #[.int .u16 x1, .int .u16 y1, .int .u16 z1] 24) = W := ⟨_, rfl⟩
      have HB8 : Hid (Below w.heap.size w w8) := Lib.hid (by rw [← hw8]; exact HB7.out.alloc HB7.out.size _)
      have HRa8 : Hid (Row w8 w.heap.size 24 [.int .u16 x1, .int .u16 y1, .int .u16 z1]) := Lib.hid (by rw [← hw8]; exact (HRa.out.below Hb7.out HRa.out.lt).alloc _)
      have HRb8 : Hid (Row w8 (w.heap.size + 1) 24 [.int .u16 x2, .int .u16 y2, .int .u16 z2]) := Lib.hid (by rw [← hw8]; exact (HRb.out.below Hb7.out HRb.out.lt).alloc _)
      have HRv8 : Hid (Row w8 vb 24 [.int .u16 v0, .int .u16 v1, .int .u16 v2]) := Lib.hid (by rw [← hw8]; exact (HRv.out.below Hb7.out HRv.out.lt).alloc _)
      have HRx8 : Hid (Row w8 w7.heap.size 24 [.int .u16 x1, .int .u16 y1, .int .u16 z1]) := Lib.hid (by rw [← hw8]; exact row_alloc w7 _ _ _ _)
      have l0 := HRa8.out.lt
      have l1 := HRb8.out.lt
      have l2 := HRv8.out.lt
      have l3 := HRx8.out.lt
      clear hb7 Hb6 Hb7 HB5 HRa HRb HRv
      have p0 := HRa8.out.cell 0
      have p1 := HRa8.out.cell 1
      have p2 := HRa8.out.cell 2
      simp only [List.getElem?_cons_zero, List.getElem?_cons_succ] at p0 p1 p2
      have q0 := HRb8.out.cell 0
      have q1 := HRb8.out.cell 1
      have q2 := HRb8.out.cell 2
      simp only [List.getElem?_cons_zero, List.getElem?_cons_succ] at q0 q1 q2
      have u0 := HRx8.out.cell 0
      have u1 := HRx8.out.cell 1
      have u2 := HRx8.out.cell 2
      simp only [List.getElem?_cons_zero, List.getElem?_cons_succ] at u0 u1 u2
      have t0 := HRv8.out.cell 0
      have t1 := HRv8.out.cell 1
      have t2 := HRv8.out.cell 2
      simp only [List.getElem?_cons_zero, List.getElem?_cons_succ] at t0 t1 t2
      have R10 := Lib.hid (rows2 w8 [.int .i64 x1, .int .i64 y1, .int .i64 z1] [.int .i64 x2, .int .i64 y2, .int .i64 z2] 3)
      go_wp2_with fail
      obtain ⟨rp, rq, hB10⟩ := R10.out
      have ra10 := (HRa8.out.alloc (.cells [.int .i64 x1, .int .i64 y1, .int .i64 z1].toArray 3)).alloc (.cells [.int .i64 x2, .int .i64 y2, .int .i64 z2].toArray 3)
      have rb10 := (HRb8.out.alloc (.cells [.int .i64 x1, .int .i64 y1, .int .i64 z1].toArray 3)).alloc (.cells [.int .i64 x2, .int .i64 y2, .int .i64 z2].toArray 3)
      have rx10 := (HRx8.out.alloc (.cells [.int .i64 x1, .int .i64 y1, .int .i64 z1].toArray 3)).alloc (.cells [.int .i64 x2, .int .i64 y2, .int .i64 z2].toArray 3)
      generalize (w8.alloc (.cells [.int .i64 x1, .int .i64 y1, .int .i64 z1].toArray 3)).alloc (.cells [.int .i64 x2, .int .i64 y2, .int .i64 z2].toArray 3) = w10 at rp rq hB10 ra10 rb10 rx10 ⊢
      have HB10 := Lib.hid (HB8.out.trans (hB10.mono HB8.out.size))
      have HP10 := Lib.hid (And.intro rp rq)
      have HX10 := Lib.hid (And.intro ra10 (And.intro rb10 rx10))
      clear rp rq hB10 ra10 rb10 rx10 p0 p1 p2 q0 q1 q2 u0 u1 u2 t0 t1 t2 l0 l1 l2 l3 R10 HRa8 HRb8 HRv8 HRx8
      refine (TV.out _ (HG.out.below HB10.out).t10).mono ?_
      rintro e w10b ⟨rfl, hb10⟩
      have HB10b := Lib.hid (HB10.out.trans (hb10.mono HB10.out.size))
      have HP10b := Lib.hid (And.intro (HP10.out.1.below hb10 HP10.out.1.lt) (HP10.out.2.below hb10 HP10.out.2.lt))
      have ra := HX10.out.1.below hb10 HX10.out.1.lt
      have rb := HX10.out.2.1.below hb10 HX10.out.2.1.lt
      have rx := HX10.out.2.2.below hb10 HX10.out.2.2.lt
      have p0 := ra.cell 0
      have p1 := ra.cell 1
      have p2 := ra.cell 2
      have q0 := rb.cell 0
      have q1 := rb.cell 1
      have q2 := rb.cell 2
      have u0 := rx.cell 0
      have u1 := rx.cell 1
      have u2 := rx.cell 2
      simp only [List.getElem?_cons_zero, List.getElem?_cons_succ] at p0 p1 p2 q0 q1 q2 u0 u1 u2
      clear hb10 ra rb rx
      go_wp2_with fail
      refine (CC.out _).mono ?_
      rintro e w11 ⟨rfl, hb11⟩
      have HB11 := Lib.hid (HB10b.out.trans (hb11.mono HB10b.out.size))
      have HP11 := Lib.hid (And.intro (HP10b.out.1.below hb11 HP10b.out.1.lt) (HP10b.out.2.below hb11 HP10b.out.2.lt))
      clear hb11
      go_wp2_with fail
      refine (CR.out _ _ _ HP11.out.1 HP11.out.2).mono ?_
      rintro e w12 ⟨rfl, q2, rfl⟩
      go_wp2
      go_ret
      exact ⟨ret_boolE (by simp), below_dr HB11.out q2⟩

set_option maxRecDepth 100000 in
set_option maxHeartbeats 4000000 in
theorem Parses_long (s : ByteArray) (x1 y1 z1 x2 y2 z2 : Nat) (hs : ¬ s.size ≤ 100) (w : World) (hG : VG w) (hN : NV w) :
    Calls Tryd.prog 3 #[.string s, .agg #[.int .u16 x1, .int .u16 y1, .int .u16 z1], .agg #[.int .u16 x2, .int .u16 y2, .int .u16 z2]] w fun e w' => e = .returned (.bool true) ∧ Below w.heap.size w w' := by
  have H0 := Lib.hid (rows2 w [.int .u16 x1, .int .u16 y1, .int .u16 z1] [.int .u16 x2, .int .u16 y2, .int .u16 z2] 24)
  have HG := Lib.hid hG
  have HN := Lib.hid hN
  have hsI : (100 : Int) < (s.size : Int) := by omega
  clear hG hN hs
  go_enter Tryd.func3, Tryd.ntmps3
  go_wp2_with fail
  obtain ⟨hr0, hr1, hb0⟩ := H0.out
  generalize (w.alloc (.cells [.int .u16 x1, .int .u16 y1, .int .u16 z1].toArray 24)).alloc (.cells [.int .u16 x2, .int .u16 y2, .int .u16 z2].toArray 24) = wa at hr0 hr1 hb0 ⊢
  refine (awake17_any _ (HG.out.below hb0) (HN.out.below hb0)).mono ?_
  rintro e w2 ⟨rfl, hb2⟩
  have HB2 := Lib.hid (hb0.trans (hb2.mono hb0.size))
  clear hr0 hr1 hb0 hb2 H0
  go_wp2
  go_ret
  exact ⟨rfl, HB2.out⟩

theorem VersionParses_walk (s : ByteArray) (x1 y1 z1 x2 y2 z2 : Nat) (w0 : s.size ≤ 140737488355328) (ha : x1 ≤ 65535 ∧ y1 ≤ 65535 ∧ z1 ≤ 65535) (hb : x2 ≤ 65535 ∧ y2 ≤ 65535 ∧ z2 ≤ 65535) (w : World) (hG : VG w) (hN : NV w) :
    Calls Tryd.prog 3 #[.string s, .agg #[.int .u16 x1, .int .u16 y1, .int .u16 z1], .agg #[.int .u16 x2, .int .u16 y2, .int .u16 z2]] w fun e w' => e = .returned (.bool true) ∧ Below w.heap.size w w' := by
  by_cases hs : s.size ≤ 100
  · cases hp : pv s.data.toList with
    | none => exact Parses_not s x1 y1 z1 x2 y2 z2 hs ha hb hp w hG hN
    | some v =>
      obtain ⟨v0, v1, v2⟩ := v
      obtain ⟨he, h0, h1, h2⟩ := pv_some hp
      refine Parses_is s x1 y1 z1 x2 y2 z2 v0 v1 v2 ⟨h0, h1, h2⟩ hs ha hb hp ?_ w hG hN
      apply ByteArray.ext
      apply Array.ext'
      rw [he]
      simp [vsB]
  · exact Parses_long s x1 y1 z1 x2 y2 z2 hs w hG hN
end Go.Proofs.YtcimcnlonepbcaaDoor
