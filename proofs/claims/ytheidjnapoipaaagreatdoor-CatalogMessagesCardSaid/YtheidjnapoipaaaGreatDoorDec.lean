/- The contracts of the reading of letters. -/
import Derived.Test.YtheidjnapoipaaaGreatDoorRows
import Derived.WalkKit
import Derived.WalkSpells
import Derived.WalkLawsBesides
import Derived.Lib.Hide
import Derived.Deep.DeepCutAuto
import Derived.Deep.RegionHeld3
import Derived.Deep.QuietTactic
import Derived.BigQuiet
import Derived.Laws.Externs
import Derived.Lib.Bytealg
import Derived.Lib.IndexLaws
import Derived.Test.YtheidjnapoipaaaGreatDoorEnc
namespace Go.Proofs.YtheidjnapoipaaaGreatDoor
open Go.RowKit
set_option linter.unusedVariables false

/-- The place of a letter. -/
def ixI (s : ByteArray) (c : UInt8) : Int := Lib.indexByte s.data.toList c

theorem run_extern (s : ByteArray) (c : UInt8) (w : World) :
    (callFunc 114 #[.string s, .int .u8 c.toNat]).run Tryz.prog w = .ok (.value (.int .i64 (ixI s c))) w := by
  have h := run_callFunc_extern (P := Tryz.prog) (f := 114) (fn := Tryz.f114) (e := Extern.BytealgIndexByte.indexByte) (by kernel_rfl) (by kernel_rfl) (by kernel_rfl) (by kernel_rfl) (by kernel_rfl) #[.string s, .int .u8 c.toNat] w
  rw [Lib.run_indexByteString] at h
  rw [h]
  have e : ((c.toNat : Int)).toNat.toUInt8 = c := by simp
  rw [e]
  rfl

set_option maxRecDepth 20000 in
set_option maxHeartbeats 400000 in
theorem lite_any (s : ByteArray) (c : UInt8) (w : World) :
    Calls Tryz.prog 100 #[.string s, .int .u8 c.toNat] w fun e w' => e = .returned (.int .i64 (ixI s c)) ∧ w = w' := by
  have hx := run_extern s c
  go_enter Tryz.func100, Tryz.ntmps100
  go_wp2
  go_ret
  exact ⟨rfl, rfl⟩

set_option maxRecDepth 20000 in
set_option maxHeartbeats 400000 in
theorem IndexByte_any (s : ByteArray) (c : UInt8) (w : World) :
    Calls Tryz.prog 88 #[.string s, .int .u8 c.toNat] w fun e w' => e = .returned (.int .i64 (ixI s c)) ∧ w = w' := by
  go_enter Tryz.func88, Tryz.ntmps88
  go_wp2_with (go_at_call 100; refine (lite_any _ _ _).mono ?_; rintro e w1 ⟨rfl, rfl⟩)
  go_ret
  exact ⟨rfl, rfl⟩

/-- The letters' numbers that a text begins with. -/
def preN (s : ByteArray) : List UInt8 → List Nat
  | [] => []
  | c :: t => if 0 ≤ ixI s c then (ixI s c).toNat :: preN s t else []

/-- What holds of the reading under way: of the numbers ds q bytes are there, c bits are held. -/
def DecSt (k : Nat) (ds : List Nat) (B : Nat) (w0 : World) (g0 : Nat) (al : List Value) (v : Value) (h c q : Nat) (wr : World) : Prop :=
  k * ds.length = 8 * q + c ∧ c < 8 ∧ h = ug (2 ^ k) ds % 2 ^ c ∧ wr.ownsRow B 5 1 v q ((putL (ug (2 ^ k) ds / 2 ^ c) q).map bv) ∧ Row wr g0 67 al ∧ Below w0.heap.size w0 wr ∧ B ≤ wr.heap.size

theorem below_drawn {B : Nat} {a w : World} (h : Below B a w) (n : Nat) : Below B a (w.drewN n) := ⟨h.os, h.tape, h.output, h.size, h.block⟩
theorem DecSt.drawn {k : Nat} {ds : List Nat} {B : Nat} {w0 : World} {g0 : Nat} {al : List Value} {v : Value} {h c q : Nat} {wr : World} (H : DecSt k ds B w0 g0 al v h c q wr) (n : Nat) : DecSt k ds B w0 g0 al v h c q (wr.drewN n) :=
  ⟨H.1, H.2.1, H.2.2.1, H.2.2.2.1, H.2.2.2.2.1, below_drawn H.2.2.2.2.2.1 n, H.2.2.2.2.2.2⟩

theorem DecSt.done {k : Nat} {ds : List Nat} {B : Nat} {w0 : World} {g0 : Nat} {al : List Value} {v : Value} {h c q : Nat} {wr : World} (H : DecSt k ds B w0 g0 al v h c q wr) : decN k ds = putL (ug (2 ^ k) ds / 2 ^ c) q := by
  unfold decN
  rw [H.1]
  have e1 : (8 * q + c) % 8 = c := by have := H.2.1; omega
  have e2 : (8 * q + c) / 8 = q := by have := H.2.1; omega
  rw [e1, e2]

theorem ix_lt {L : ByteArray} {c : UInt8} {d : Nat} (h : ixI L c = d) : d < L.size := by
  have h1 := (Lib.indexByte_some h).1
  have h2 : d < L.data.toList.length := by
    rcases Nat.lt_or_ge d L.data.toList.length with h3 | h3
    · exact h3
    · rw [List.getElem?_eq_none h3] at h1; cases h1
  simpa using h2

theorem drop_cons (t : ByteArray) (n : Nat) (h : n < t.size) : t.data.toList.drop n = t[n] :: t.data.toList.drop (n + 1) := by
  rw [List.drop_eq_getElem_cons (by simpa using h)]; rfl

theorem held_le {h k M : Nat} (hh : h < 128) (hk : k ≤ 6) (e : h * 2 ^ k = M) : M ≤ 8192 := by
  rw [← e]
  have h1 : (2 : Nat) ^ k ≤ 64 := Nat.le_trans (Nat.pow_le_pow_right (by omega) hk) (by decide)
  exact Nat.le_trans (Nat.mul_le_mul_left h h1) (by omega)
theorem held_lt {M d : Nat} (hM : M ≤ 8192) (hd : d < 64) : M + d < 16384 := by omega
theorem held_or {h k M d E : Nat} (hM : M ≤ 8192) (hd : d < 64) (e : h * 2 ^ k = M) (hdk : d < 2 ^ k) (hE : M + d = E) : bits BinOp.or IntKind.i64 (M : Int) (d : Int) = (E : Int) := by
  rw [or_i64 M d (by omega) (by omega), ← hE, ← e, or_low h d k hdk]
theorem held_byte (E c2 : Nat) (x : UInt8) (h : UInt8.ofNat (E / 2 ^ c2) = x) : ((E : Int) / 2 ^ c2 % 256) = (x.toNat : Int) := by
  rw [← h, UInt8.toNat_ofNat']; simp
theorem held_q {k q c n : Nat} {ds : List Nat} (hk : k ≤ 6) (h : k * ds.length = 8 * q + c) (hl : ds.length = n) (hn : n ≤ 100000) : q ≤ 200000 := by
  have h2 : k * ds.length ≤ 6 * ds.length := Nat.mul_le_mul_right _ hk
  omega
theorem mid_wrap (d : Nat) (hd : d ≤ 8192) : IntKind.i64.wrap (d : Int) = (d : Int) := IntWalk.i64_in _ (by omega)
theorem mid_wrap64 (d : Nat) (hd : d ≤ 8192) : wrap64 (d : Int) = (d : Int) := IntWalk.wrap64_in _ (by omega)

/-- A letter more, no byte more. -/
theorem DecSt.small {k : Nat} {ds : List Nat} {B : Nat} {w0 : World} {g0 : Nat} {al : List Value} {v : Value} {h c q d : Nat} {wr : World} (H : DecSt k ds B w0 g0 al v h c q wr) (hd : d < 2 ^ k) (hc : c + k < 8) :
    DecSt k (ds ++ [d]) B w0 g0 al v (h * 2 ^ k + d) (c + k) q wr := by
  obtain ⟨e1, e2, e3, e4, e5, e6, e7⟩ := H
  have p : (2 : Nat) ^ (c + k) = 2 ^ k * 2 ^ c := by rw [Nat.pow_add, Nat.mul_comm]
  have hk : 0 < (2 : Nat) ^ k := Nat.pow_pos (by omega)
  refine ⟨by rw [List.length_append, List.length_singleton, Nat.mul_add]; omega, hc, ?_, ?_, e5, e6, e7⟩
  · rw [ug_snoc, p, Nat.mod_mul, e3]
    have h1 : (ug (2 ^ k) ds * 2 ^ k + d) % 2 ^ k = d := by rw [Nat.mul_comm, Nat.mul_add_mod, Nat.mod_eq_of_lt hd]
    have h2 : (ug (2 ^ k) ds * 2 ^ k + d) / 2 ^ k = ug (2 ^ k) ds := by rw [Nat.mul_comm, Nat.mul_add_div hk, Nat.div_eq_of_lt hd, Nat.add_zero]
    rw [h1, h2, Nat.mul_comm (2 ^ k), Nat.add_comm]
  · have h2 : (ug (2 ^ k) ds * 2 ^ k + d) / 2 ^ (c + k) = ug (2 ^ k) ds / 2 ^ c := by
      rw [p, ← Nat.div_div_eq_div_mul]
      congr 1
      rw [Nat.mul_comm, Nat.mul_add_div hk, Nat.div_eq_of_lt hd, Nat.add_zero]
    rw [ug_snoc, h2]
    exact e4

/-- A letter more, and a byte with it. -/
theorem DecSt.byte {k : Nat} {ds : List Nat} {B : Nat} {w0 : World} {g0 : Nat} {al : List Value} {v v' : Value} {h c q d c2 : Nat} {wr w3 : World} {cs : Array Value} {x : UInt8} (H : DecSt k ds B w0 g0 al v h c q wr) (hd : d < 2 ^ k) (hc : c + k = 8 + c2) (hk8 : k ≤ 8)
    (hx : x = UInt8.ofNat ((h * 2 ^ k + d) / 2 ^ c2)) (hw : w0.heap.size ≤ B) (hg0 : g0 < B)
    (hgrow : (wr.alloc (.cells cs 5)).grownBy w3 v.ownBlock)
    (hown : w3.ownsRow B 5 1 v' (q + 1) ((putL (ug (2 ^ k) ds / 2 ^ c) q).map bv ++ [.int .u8 x.toNat])) :
    DecSt k (ds ++ [d]) B w0 g0 al v' ((h * 2 ^ k + d) % 2 ^ c2) c2 (q + 1) w3 := by
  obtain ⟨e1, e2, e3, e4, e5, e6, e7⟩ := H
  have p : (2 : Nat) ^ (c + k) = 2 ^ k * 2 ^ c := by rw [Nat.pow_add, Nat.mul_comm]
  have p8 : (2 : Nat) ^ (c + k) = 2 ^ c2 * 256 := by rw [hc, Nat.add_comm, Nat.pow_add]
  have hk : 0 < (2 : Nat) ^ k := Nat.pow_pos (by omega)
  have hN : h * 2 ^ k + d = (ug (2 ^ k) ds * 2 ^ k + d) % 2 ^ (c + k) := by
    rw [p, Nat.mod_mul, e3]
    have h1 : (ug (2 ^ k) ds * 2 ^ k + d) % 2 ^ k = d := by rw [Nat.mul_comm, Nat.mul_add_mod, Nat.mod_eq_of_lt hd]
    have h2 : (ug (2 ^ k) ds * 2 ^ k + d) / 2 ^ k = ug (2 ^ k) ds := by rw [Nat.mul_comm, Nat.mul_add_div hk, Nat.div_eq_of_lt hd, Nat.add_zero]
    rw [h1, h2, Nat.mul_comm (2 ^ k), Nat.add_comm]
  obtain ⟨f1, f2, f3⟩ := EncSt.more e5 e6 e7 hw (fun i e => (e4.lt i e).1) hg0 (w3 := w3) (cs := cs) ⟨hgrow.os, hgrow.tape, hgrow.output, hgrow.size, hgrow.block⟩
  refine ⟨by rw [List.length_append, List.length_singleton, Nat.mul_add]; omega, by omega, ?_, ?_, f1, f2, f3⟩
  · rw [ug_snoc, hN]
    exact Nat.mod_mod_of_dvd _ (Nat.pow_dvd_pow 2 (by omega))
  · have hq : putL (ug (2 ^ k) (ds ++ [d]) / 2 ^ c2) (q + 1) = putL (ug (2 ^ k) ds / 2 ^ c) q ++ [x] := by
      rw [putL]
      congr 2
      · rw [ug_snoc, Nat.div_div_eq_div_mul, ← p8, p, ← Nat.div_div_eq_div_mul]
        congr 1
        rw [Nat.mul_comm, Nat.mul_add_div hk, Nat.div_eq_of_lt hd, Nat.add_zero]
      · rw [hx, hN, ug_snoc, p8, Nat.mod_mul_right_div_self]
    rw [hq, List.map_append]
    exact hown

set_option maxRecDepth 20000 in
set_option maxHeartbeats 1000000 in
theorem bytesOf_any (L : ByteArray) (k : Nat) (fill : Bool) (t : ByteArray) (w : World) (hk : k = 4 ∨ k = 6) (hL : L.size = 2 ^ k) (hs : t.size ≤ 100000) :
    Calls Tryz.prog 75 #[alph L k fill, .string t] w fun e w' => (∃ r : ByteArray, e = .returned (.string r) ∧ r.data.toList = decN k (preN L t.data.toList)) ∧ Below w.heap.size w w' := by
  obtain ⟨i0, hi0, hz0, hz1, hz2⟩ := info_parts u8_info
  have hk4 : 4 ≤ k := by omega
  have hk6 : k ≤ 6 := by omega
  unfold alph
  have hr1 := Row.new w 67 (alphL L k fill)
  have hb1 := (Below.refl w.heap.size w).alloc (Nat.le_refl _) (.cells (alphL L k fill).toArray 67)
  have h0 : DecSt k [] (w.heap.size + 1) w w.heap.size (alphL L k fill) (.slice none 0 0) 0 0 0 (w.alloc (.cells (alphL L k fill).toArray 67)) :=
    ⟨by simp, by omega, by simp [ug], World.ownsRow_nil _ _ _ _, hr1, hb1, by simp⟩
  have H0 := Lib.hid h0
  obtain ⟨B, HB⟩ : ∃ B, Hid (w.heap.size + 1 = B) := ⟨_, Lib.hid rfl⟩
  rw [HB.out] at H0
  clear hr1 hb1 h0
  go_enter Tryz.func75, Tryz.ntmps75
  go_wp2_with fail
  go_step3
  go_wp2_with fail
  go_step3
  go_wp2_with fail
  go_loopw [5, 6, 7, 12] (fun v h c i wr => ∃ (n c' h' q : Nat) (ds : List Nat), n ≤ t.size ∧ i = .int .i64 n ∧ c = .int .i64 c' ∧ h = .int .i64 h' ∧ ds.length = n ∧ preN L t.data.toList = ds ++ preN L (t.data.toList.drop n) ∧ (∀ d ∈ ds, d < 2 ^ k) ∧ DecSt k ds B w w.heap.size (alphL L k fill) v h' c' q wr)
    (fun _ _ _ i _ => t.size - (intOf i).toNat)
  case atStart => exact ⟨0, 0, 0, 0, [], Nat.zero_le _, rfl, rfl, rfl, rfl, by simp, by simp, H0.out⟩
  case round =>
    obtain ⟨n, c, h, q, ds, hn, rfl, rfl, rfl, hdl, hpre, hds, hst⟩ := hrel
    obtain ⟨a5, cp5, rfl⟩ := own_form hst.2.2.2.1
    have HST := Lib.hid hst
    have HP := Lib.hid (And.intro hdl (And.intro hpre hds))
    have hc8 : c < 8 := hst.2.1
    have hh : h < 128 := by
      rw [hst.2.2.1]
      exact Nat.lt_of_lt_of_le (Nat.mod_lt _ (Nat.pow_pos (by omega))) (Nat.le_trans (Nat.pow_le_pow_right (by omega) (by omega : c ≤ 7)) (by decide))
    have hal0 := hst.2.2.2.2.1.cell 0
    have hal1 := hst.2.2.2.2.1.cell 1
    simp only [alphL, List.getElem?_cons_zero, List.getElem?_cons_succ] at hal0 hal1
    have hcv : ∀ m, (convert 76 9 (.slice a5 q cp5)).run Tryz.prog (wr.drewN m) = .ok (.string ⟨(putL (ug (2 ^ k) ds / 2 ^ c) q).toArray⟩) (wr.drewN m) :=
      fun m => own_text (P := Tryz.prog) (hst.drawn m).2.2.2.1 76 9 Tryz.underlying76 Tryz.underlying5 Tryz.underlying9
    obtain ⟨r, HR⟩ : ∃ r : ByteArray, Hid (⟨(putL (ug (2 ^ k) ds / 2 ^ c) q).toArray⟩ = r) := ⟨_, Lib.hid rfl⟩
    rw [HR.out] at hcv
    have HCV := Lib.hid hcv
    clear hst hdl hpre hds hcv
    by_cases hlt : n < t.size
    · have hi0' : (0 : Int) ≤ (n : Int) := Int.natCast_nonneg _
      have hi1 : (n : Int) < (t.size : Int) := by omega
      by_cases hneg : ixI L t[n] < 0
      · have hcv := HCV.out
        go_wp2_with fail
        go_quiet ((go_at_call 88; exact Calls.quiet_of_same ((IndexByte_any L t[n] _).mono fun _ _ hh => ⟨hh.1, hh.2.symm⟩)))
        go_wp2_with fail
        try rw [Exit.noGoto_ret]
        go_ret
        refine ⟨⟨r, rfl, ?_⟩, (HST.out.drawn _).2.2.2.2.2.1⟩
        rw [HP.out.2.1, drop_cons t n hlt, preN, if_neg (by omega), List.append_nil, HST.out.done, ← HR.out]
      · obtain ⟨d, hd⟩ := Int.eq_ofNat_of_zero_le (Int.not_lt.mp hneg)
        have hdl : d < 2 ^ k := by have := ix_lt hd; rwa [hL] at this
        have hd64 : d < 64 := Nat.lt_of_lt_of_le hdl (Nat.le_trans (Nat.pow_le_pow_right (by omega) hk6) (by decide))
        have HD := Lib.hid hd
        have HDL := Lib.hid hdl
        have hpre2 : Hid (preN L t.data.toList = (ds ++ [d]) ++ preN L (t.data.toList.drop (n + 1)) ∧ (ds ++ [d]).length = n + 1 ∧ ∀ x ∈ ds ++ [d], x < 2 ^ k) := by
          refine ⟨?_, by rw [List.length_append, HP.out.1]; rfl, fun x hx => ?_⟩
          · rw [HP.out.2.1, drop_cons t n hlt, preN, if_pos (by omega), hd, List.append_assoc]; rfl
          · rcases List.mem_append.mp hx with h1 | h1
            · exact HP.out.2.2 x h1
            · rw [List.mem_singleton.mp h1]; exact hdl
        have hcall : Hid (∀ W : World, Calls Tryz.prog 88 #[.string L, .int .u8 (t[n]).toNat] W fun e w' => e = .returned (.int .i64 (d : Int)) ∧ w' = W) := fun W => by
          rw [← hd]; exact (IndexByte_any L t[n] W).mono fun _ _ hh => ⟨hh.1, hh.2.symm⟩
        obtain ⟨M, HM⟩ : ∃ M, Hid (h * 2 ^ k = M) := ⟨_, Lib.hid rfl⟩
        have hM : M ≤ 8192 := held_le hh hk6 HM.out
        have hm1 : IntKind.i64.wrap ((h : Int) * 2 ^ k) = (M : Int) := by rw [cast_shl h k M HM.out]; exact mid_wrap M hM
        have hm2 : wrap64 ((h : Int) * 2 ^ k) = (M : Int) := by rw [cast_shl h k M HM.out]; exact mid_wrap64 M hM
        obtain ⟨E, HE⟩ : ∃ E, Hid (M + d = E) := ⟨_, Lib.hid rfl⟩
        have hE : E < 16384 := by rw [← HE.out]; exact held_lt hM hd64
        have hor : bits BinOp.or IntKind.i64 (M : Int) (d : Int) = (E : Int) := held_or hM hd64 HM.out HDL.out HE.out
        have HEE : Hid (h * 2 ^ k + d = E) := by rw [HM.out]; exact HE.out
        clear hneg hd hdl hM
        by_cases hsm : c + k < 8
        · have hs1 : IntKind.i64.wrap ((c : Int) + (k : Int)) = (c : Int) + (k : Int) := IntWalk.i64_in _ (by omega)
          have HS := Lib.hid hs1
          clear hs1
          go_wp2_with fail
          go_quiet ((go_at_call 88; exact Calls.quiet_of_same (hcall.out _)))
          go_wp2_with fail
          have hs1 := HS.out
          go_quiet (fail)
          clear hs1 hm1 hm2 hor
          go_wp2_with fail
          go_roundw
          case rel =>
            have h9 := (HST.out.small HDL.out hsm).drawn
            rw [HEE.out] at h9
            exact ⟨n + 1, c + k, E, q, ds ++ [d], hlt, by rw [Int.natCast_add]; rfl, by rw [Int.natCast_add], rfl, hpre2.out.2.1, hpre2.out.1, hpre2.out.2.2, h9 _⟩
          case measure => simp [intOf]; omega
        · obtain ⟨c2, hc2⟩ : ∃ c2, c + k = 8 + c2 := ⟨c + k - 8, by omega⟩
          have hsub : ((c : Int) + ((k : Int) - 8)) = (c2 : Int) := by omega
          have hc26 : c2 ≤ 6 := by omega
          obtain ⟨x, HX⟩ : ∃ x, Hid (UInt8.ofNat (E / 2 ^ c2) = x) := ⟨_, Lib.hid rfl⟩
          have hx : ((E : Int) / 2 ^ c2 % 256) = (x.toNat : Int) := held_byte E c2 x HX.out
          have hmask := mask_i64 E c2 hE (by omega)
          obtain ⟨E2, HE2⟩ : ∃ E2, Hid (E % 2 ^ c2 = E2) := ⟨_, Lib.hid rfl⟩
          rw [HE2.out] at hmask
          have hBs := HST.out.2.2.2.2.2.2
          have hql : q ≤ 200000 := held_q hk6 HST.out.1 HP.out.1 (by omega)
          have HC2 := Lib.hid hc2
          clear hc2
          go_wp2_with fail
          go_quiet ((go_at_call 88; exact Calls.quiet_of_same (hcall.out _)))
          go_wp2_with (at_builtin; refine wpList_append_own _ rfl (.tmp 32) (.tmp 37) 76 rfl B 5 i0 (.int .u8 0) 1 1 Tryz.underlying76 hi0 hz0 hz1 hz2 rfl (by decide) _ _ _ rfl ((HST.out.drawn nq).2.2.2.1.alloc _) ⟨wr.heap.size, 0, none⟩ 1 1 [.int .u8 x.toNat] rfl rfl (World.news_of_block (cs := #[.int .u8 x.toNat]) (t := 5) (fr := (0, 0)) (heap_alloc_new (wr.drewN nq) _)) (by simp [Value.oneCell']) (by unfold maxLen; omega) (by omega) (by simp; omega) ?_; intro v4 w4 hown4 hg4 hnil4)
          have HST2 := HST.out.drawn nq
          have H4 := Lib.hid (HST2.byte (d := d) (c2 := c2) (x := x) (v' := v4) (w3 := w4) HDL.out HC2.out (by omega) (by rw [HEE.out]; exact HX.out.symm) (by have := HB.out; omega) (by have := HB.out; omega) hg4 hown4)
          clear hown4 hg4 hnil4 HST2
          go_roundw
          case rel =>
            refine ⟨n + 1, c2, E2, q + 1, ds ++ [d], by omega, by go_num, rfl, rfl, hpre2.out.2.1, hpre2.out.1, hpre2.out.2.2, ?_⟩
            have h9 := H4.out
            rw [HEE.out, HE2.out] at h9
            exact h9
          case measure => simp [intOf]; omega
    · have hcv := HCV.out 0
      rw [World.drewN_zero] at hcv
      go_wp2_with fail
      try rw [Exit.noGoto_ret]
      go_ret
      refine ⟨⟨r, rfl, ?_⟩, HST.out.2.2.2.2.2.1⟩
      rw [HP.out.2.1, List.drop_of_length_le (by simp; omega), preN, List.append_nil, HST.out.done, ← HR.out]
end Go.Proofs.YtheidjnapoipaaaGreatDoor
