/- The contract of the writing by letters. -/
import Derived.Test.YtheidjnapoipaaaGreatDoorRows
import Derived.WalkKit
import Derived.WalkSpells
import Derived.WalkLawsBesides
import Derived.Lib.Hide
import Derived.Deep.DeepCutAuto
import Derived.Deep.RegionHeld3
import Derived.Deep.AppendLies
import Derived.Test.YtheidjnapoipaaaGreatDoorPlain
import Derived.Test.YtheidjnapoipaaaGreatDoorMem
import Derived.Test.YtheidjnapoipaaaGreatDoorDig
import Derived.Test.YtheidjnapoipaaaGreatDoorSize
namespace Go.Proofs.YtheidjnapoipaaaGreatDoor
open Go.RowKit
set_option linter.unusedVariables false

theorem u8_info : (Tryz.prog.info? 5).map (fun i => (i.zero, i.size, i.bytes)) = some (some (.int .u8 0), 1, 1) := by kernel_rfl

theorem nat_i64 (a : Nat) (ha : a < 9223372036854775808) : (BitVec.ofInt 64 (a : Int)).toNat = a := by
  rw [BitVec.ofInt_natCast, BitVec.toNat_ofNat]; exact Nat.mod_eq_of_lt (by omega)
theorem and_i64 (a b : Nat) (ha : a < 9223372036854775808) (hb : b < 9223372036854775808) : bits .and .i64 (a : Int) (b : Int) = ((a &&& b : Nat) : Int) := by
  have hx : a &&& b < 2 ^ 63 := Nat.and_lt_two_pow _ (by omega)
  show IntKind.i64.wrap ((BitVec.ofInt 64 (a : Int) &&& BitVec.ofInt 64 (b : Int)).toNat : Int) = _
  rw [BitVec.toNat_and, nat_i64 a ha, nat_i64 b hb, IntKind.wrap_i64]
  omega
theorem or_i64 (a b : Nat) (ha : a < 9223372036854775808) (hb : b < 9223372036854775808) : bits .or .i64 (a : Int) (b : Int) = ((a ||| b : Nat) : Int) := by
  have hx : a ||| b < 2 ^ 63 := Nat.or_lt_two_pow (by omega) (by omega)
  show IntKind.i64.wrap ((BitVec.ofInt 64 (a : Int) ||| BitVec.ofInt 64 (b : Int)).toNat : Int) = _
  rw [BitVec.toNat_or, nat_i64 a ha, nat_i64 b hb, IntKind.wrap_i64]
  omega
theorem or_low (h c j : Nat) (hc : c < 2 ^ j) : (h * 2 ^ j ||| c) = h * 2 ^ j + c := by
  have e := Nat.two_pow_add_eq_or_of_lt (i := j) hc h
  rw [Nat.mul_comm] at e
  exact e.symm

/-- The letters of numbers, as cells. -/
def lets (L : ByteArray) (ds : List Nat) : List Value := ds.map fun d => bv (L.data.toList.getD d 0)
theorem lets_length (L : ByteArray) (ds : List Nat) : (lets L ds).length = ds.length := by simp [lets]
theorem lets_snoc (L : ByteArray) (ds : List Nat) (d : Nat) : lets L (ds ++ [d]) = lets L ds ++ [bv (L.data.toList.getD d 0)] := by simp [lets]

/-- A letter more. -/
theorem enc_step (V k m c : Nat) (h : k ≤ c) : dg (2 ^ k) (V / 2 ^ (c - k)) (m + 1) = dg (2 ^ k) (V / 2 ^ c) m ++ [V % 2 ^ c / 2 ^ (c - k)] := by
  have e : (2 : Nat) ^ c = 2 ^ (c - k) * 2 ^ k := by rw [← Nat.pow_add]; congr 1; omega
  rw [dg_snoc, Nat.div_div_eq_div_mul, ← e]
  congr 2
  rw [e, Nat.mod_mul_right_div_self]
theorem enc_held (V k c : Nat) (h : k ≤ c) : V % 2 ^ c % 2 ^ (c - k) = V % 2 ^ (c - k) :=
  Nat.mod_mod_of_dvd _ (Nat.pow_dvd_pow 2 (by omega))

/-- A text's byte by a number that is reckoned. -/
theorem run_index_str {P : Program} (t : TypeId) (s : ByteArray) (j : Nat) (h : P.underlying t = some .string) (hj : j < s.size) (W : World) :
    (Instr.index t (.string s) (.int .i64 (j : Int))).run P W = .ok (.int .u8 ((s.data.toList.getD j 0).toNat : Int)) W := by
  have e : s[j]? = some (s.data.toList.getD j 0) := by
    have hj' : j < s.data.toList.length := by simpa using hj
    rw [List.getD_eq_getElem?_getD, List.getElem?_eq_getElem hj']
    simp [getElem?_pos, hj]
    rfl
  simp [Instr.index, run_underlying h, asIntOf, e]

/-- What holds of the writing under way: of the first n bytes m letters are there, c bits are held. -/
def EncSt (L : ByteArray) (k : Nat) (l : List UInt8) (B : Nat) (w0 : World) (g0 : Nat) (alphC : List Value) (v : Value) (h c m n : Nat) (wr : World) : Prop :=
  8 * n = k * m + c ∧ h = getL (l.take n) % 2 ^ c ∧ wr.ownsRow B 5 1 v m (lets L (dg (2 ^ k) (getL (l.take n) / 2 ^ c) m)) ∧ Row wr g0 67 alphC ∧ Below w0.heap.size w0 wr ∧ B ≤ wr.heap.size

theorem EncSt.byte {L : ByteArray} {k : Nat} {s : ByteArray} {B : Nat} {w0 : World} {g0 : Nat} {al : List Value} {v : Value} {h c m n : Nat} {wr : World} (H : EncSt L k s.data.toList B w0 g0 al v h c m n wr) (hn : n < s.size) :
    EncSt L k s.data.toList B w0 g0 al v (h * 256 + (s[n]).toNat) (c + 8) m (n + 1) wr := by
  obtain ⟨e1, e2, e3, e4, e5, e6⟩ := H
  have hb := UInt8.toNat_lt s[n]
  have p : (2 : Nat) ^ (c + 8) = 2 ^ c * 256 := by rw [Nat.pow_add]
  refine ⟨by omega, ?_, ?_, e4, e5, e6⟩
  · rw [take_snoc s n hn, getL_snoc, e2, p, Nat.mul_comm (2 ^ c) 256, Nat.mod_mul]
    have h1 : (getL (s.data.toList.take n) * 256 + (s[n]).toNat) % 256 = (s[n]).toNat := by omega
    have h2 : (getL (s.data.toList.take n) * 256 + (s[n]).toNat) / 256 = getL (s.data.toList.take n) := by omega
    rw [h1, h2]; omega
  · have h2 : (getL (s.data.toList.take n) * 256 + (s[n]).toNat) / 2 ^ (c + 8) = getL (s.data.toList.take n) / 2 ^ c := by
      rw [p, Nat.mul_comm (2 ^ c) 256, ← Nat.div_div_eq_div_mul]
      congr 1; omega
    rw [take_snoc s n hn, getL_snoc, h2]
    exact e3

/-- A row of one's own and the alphabet's block behind an append. -/
theorem EncSt.more {B g0 : Nat} {al : List Value} {w0 wr w3 : World} {v : Value} {cs : Array Value} (hrow : Row wr g0 67 al) (hbel : Below w0.heap.size w0 wr) (hB : B ≤ wr.heap.size) (hw : w0.heap.size ≤ B) (hlt : ∀ i, v.ownBlock = some i → B ≤ i) (hg0 : g0 < B)
    (hgrow : ((wr.alloc (.cells cs 5)).drew).grownBy w3 v.ownBlock) : Row w3 g0 67 al ∧ Below w0.heap.size w0 w3 ∧ B ≤ w3.heap.size := by
  have hz : ((wr.alloc (.cells cs 5)).drew).heap.size = wr.heap.size + 1 := by simp
  refine ⟨?_, ?_, ?_⟩
  · have h1 : Row ((wr.alloc (.cells cs 5)).drew) g0 67 al := hrow.alloc _
    exact (hgrow.block g0 h1.lt (fun e => by have := hlt g0 e.symm; omega)).trans h1
  · refine ((hbel.alloc hbel.size _).drew).grown hgrow (by rw [hz]; have := hbel.size; omega) (fun i e => ?_)
    have := hlt i e
    omega
  · have := hgrow.size
    omega

theorem mask_i64 (h c : Nat) (hh : h < 16384) (hc : c ≤ 13) : bits BinOp.and IntKind.i64 (h : Int) (wrap64 (wrap64 (2 ^ c) - 1)) = ((h % 2 ^ c : Nat) : Int) := by
  have hp : (2 : Nat) ^ c ≤ 8192 := Nat.le_trans (Nat.pow_le_pow_right (by omega) hc) (by decide)
  have hpos : 0 < (2 : Nat) ^ c := Nat.pow_pos (by omega)
  have e0 : ((2 : Int) ^ c) = ((2 ^ c : Nat) : Int) := by simp
  have e1 : wrap64 ((2 : Int) ^ c) = ((2 ^ c : Nat) : Int) := by
    rw [e0]; exact IntWalk.wrap64_in _ (by omega)
  have e2 : wrap64 (((2 ^ c : Nat) : Int) - 1) = ((2 ^ c - 1 : Nat) : Int) := by
    rw [IntWalk.wrap64_in _ (by omega)]; omega
  rw [e1, e2, and_i64 h (2 ^ c - 1) (by omega) (by omega), Nat.and_two_pow_sub_one_eq_mod]

/-- A letter more, laid at the end. -/
theorem EncSt.letter {L : ByteArray} {k : Nat} {l : List UInt8} {B : Nat} {w0 : World} {g0 : Nat} {al : List Value} {v v' : Value} {h c m n : Nat} {wr w3 : World} {x : UInt8} {cs : Array Value}
    (H : EncSt L k l B w0 g0 al v h (k + c) m n wr) (hx : L.data.toList.getD (h / 2 ^ c) 0 = x) (hw : w0.heap.size ≤ B) (hg0 : g0 < B)
    (hgrow : ((wr.alloc (.cells cs 5)).drew).grownBy w3 v.ownBlock)
    (hown : w3.ownsRow B 5 1 v' (m + 1) (lets L (dg (2 ^ k) (getL (l.take n) / 2 ^ (k + c)) m) ++ [.int .u8 x.toNat])) :
    EncSt L k l B w0 g0 al v' (h % 2 ^ c) c (m + 1) n w3 := by
  obtain ⟨e1, e2, e3, e4, e5, e6⟩ := H
  obtain ⟨f1, f2, f3⟩ := EncSt.more e4 e5 e6 hw (fun i e => (e3.lt i e).1) hg0 hgrow
  have hs := enc_step (getL (l.take n)) k m (k + c) (by omega)
  have hh := enc_held (getL (l.take n)) k (k + c) (by omega)
  have hc : k + c - k = c := by omega
  rw [hc] at hs hh
  refine ⟨by rw [Nat.mul_add]; omega, by rw [e2, hh], ?_, f1, f2, f3⟩
  rw [hs, lets_snoc, ← e2, hx]
  exact hown

theorem small_wrap (d : Nat) (hd : d < 64) : IntKind.i64.wrap (d : Int) = (d : Int) := IntWalk.i64_in _ (by omega)
theorem small_wrap64 (d : Nat) (hd : d < 64) : wrap64 (d : Int) = (d : Int) := IntWalk.wrap64_in _ (by omega)
theorem cast_shl (h q d : Nat) (e : h * 2 ^ q = d) : (h : Int) * 2 ^ q = (d : Int) := by rw [← e]; simp

/-- Behind the last byte nothing is held: all letters are there. -/
theorem EncSt.done0 {L : ByteArray} {k : Nat} {l : List UInt8} {B : Nat} {w0 : World} {g0 : Nat} {al : List Value} {v : Value} {h c m n N : Nat} {wr : World}
    (H : EncSt L k l B w0 g0 al v h c m n wr) (hc : c = 0) (hl : l.take n = l) (hn : n = N) (hk : 0 < k) (hN : l.length = N) :
    wr.ownsRow B 5 1 v (mOf k N) (lets L (encN k l)) ∧ Below w0.heap.size w0 wr ∧ B ≤ wr.heap.size := by
  obtain ⟨e1, e2, e3, e4, e5, e6⟩ := H
  subst hc hn
  have hu := mOf_unique (k := k) (m := m) (c := 0) (n := n) hk (by omega) hk
  refine ⟨?_, e5, e6⟩
  unfold encN
  rw [hN, hu.1, hu.2]
  rw [hl] at e3
  simpa using e3

/-- Behind the last byte c bits are held: one letter more. -/
theorem EncSt.done1 {L : ByteArray} {k : Nat} {l : List UInt8} {B : Nat} {w0 : World} {g0 : Nat} {al : List Value} {v v' : Value} {h c m n N : Nat} {wr w3 : World} {x : UInt8} {cs : Array Value}
    (H : EncSt L k l B w0 g0 al v h c m n wr) (hc : 0 < c) (hck : c < k) (hl : l.take n = l) (hn : n = N) (hN : l.length = N) (hx : L.data.toList.getD (h * 2 ^ (k - c)) 0 = x) (hw : w0.heap.size ≤ B) (hg0 : g0 < B)
    (hgrow : ((wr.alloc (.cells cs 5)).drew).grownBy w3 v.ownBlock)
    (hown : w3.ownsRow B 5 1 v' (m + 1) (lets L (dg (2 ^ k) (getL (l.take n) / 2 ^ c) m) ++ [.int .u8 x.toNat])) :
    mOf k N = m + 1 ∧ w3.ownsRow B 5 1 v' (mOf k N) (lets L (encN k l)) ∧ Below w0.heap.size w0 w3 ∧ B ≤ w3.heap.size := by
  obtain ⟨e1, e2, e3, e4, e5, e6⟩ := H
  obtain ⟨f1, f2, f3⟩ := EncSt.more e4 e5 e6 hw (fun i e => (e3.lt i e).1) hg0 hgrow
  subst hn
  have hu := mOf_unique (k := k) (m := m + 1) (c := k - c) (n := n) (by omega) (by rw [Nat.mul_add]; omega) (by omega)
  refine ⟨hu.1, ?_, f2, f3⟩
  have he : encN k l = dg (2 ^ k) (getL l / 2 ^ c) m ++ [h * 2 ^ (k - c)] := by
    unfold encN
    rw [hN, hu.1, hu.2, dg_snoc]
    have p : (2 : Nat) ^ k = 2 ^ c * 2 ^ (k - c) := by rw [← Nat.pow_add]; congr 1; omega
    have hpos : 0 < (2 : Nat) ^ (k - c) := Nat.pow_pos (by omega)
    rw [hl] at e2
    congr 2
    · rw [p, Nat.mul_div_mul_right _ _ hpos]
    · rw [p, Nat.mul_mod_mul_right, e2]
  rw [hu.1, he, lets_snoc, hx]
  rw [hl] at hown
  exact hown

set_option maxRecDepth 20000 in
set_option maxHeartbeats 2000000 in
theorem Encode_any (L : ByteArray) (k : Nat) (fill : Bool) (s : ByteArray) (w : World) (hk : k = 4 ∨ k = 6) (hL : L.size = 2 ^ k) (hs : s.size ≤ 100000) :
    Calls Tryz.prog 41 #[alph L k fill, .string s] w fun e w' => (∃ r : ByteArray, e = .returned (.string r) ∧ r.data.toList = (encN k s.data.toList).map (fun d => L.data.toList.getD d 0) ++ List.replicate (szA k fill s.size - mOf k s.size) 61) ∧ Below w.heap.size w w' := by
  obtain ⟨i0, hi0, hz0, hz1, hz2⟩ := info_parts u8_info
  have hk4 : 4 ≤ k := by omega
  have hk6 : k ≤ 6 := by omega
  unfold alph
  go_enter Tryz.func41, Tryz.ntmps41
  go_wp2_with fail
  refine (Size_any L k fill s.size _ hk (by omega)).mono ?_
  rintro e w1 ⟨rfl, hb1⟩
  have hr1 := (Row.new w 67 (alphL L k fill)).below hb1 (by simp)
  have hb2 := ((Below.refl w.heap.size w).alloc (Nat.le_refl _) (.cells (alphL L k fill).toArray 67)).trans (hb1.mono (by simp))
  have hsz1 : w.heap.size + 1 ≤ w1.heap.size := by have := hb1.size; simpa using this
  obtain ⟨N, HN⟩ : ∃ N, Hid (szA k fill s.size = N) := ⟨_, Lib.hid rfl⟩
  have hNl : N ≤ 1000000 := by
    rw [← HN.out]; unfold szA
    rcases hk with rfl | rfl <;> (split <;> omega)
  rw [HN.out]
  clear hb1
  go_wp2_with (refine wpList_make_own _ rfl _ (.tmp 17) 76 rfl (w.heap.size + 1) 5 i0 (.int .u8 0) 1 Tryz.underlying76 hi0 hz0 hz1 .i64 .i64 (N : Int) N rfl rfl rfl (by rw [hz2]; omega) (by unfold maxLen; omega) hsz1 ?_; intro w2 hown2 hg2)
  have hr2 : Row w2 w.heap.size 67 (alphL L k fill) := by
    have := hg2.block w.heap.size hr1.lt (by simp)
    exact this.trans hr1
  have hb3 := hb2.grown hg2 hb2.size (by simp)
  have hsz2 : w.heap.size + 1 ≤ w2.heap.size := Nat.le_trans hsz1 hg2.size
  clear hr1 hb2 hg2 hsz1
  generalize hB : w.heap.size + 1 = B at hown2 hsz2
  have HB := Lib.hid hB
  clear hB
  have h0 : EncSt L k s.data.toList B w w.heap.size (alphL L k fill) (.slice (some ⟨w1.heap.size, 0, none⟩) 0 N) 0 0 0 0 w2 :=
    ⟨by omega, by simp [getL], hown2, hr2, hb3, hsz2⟩
  have H0 := Lib.hid h0
  clear h0 hown2 hr2 hb3 hsz2
  go_loopw [6, 7, 8, 21] (fun v h c i wr => ∃ (n m c' h' : Nat), n ≤ s.size ∧ i = .int .i64 n ∧ c = .int .i64 c' ∧ h = .int .i64 h' ∧ c' < k ∧ EncSt L k s.data.toList B w w.heap.size (alphL L k fill) v h' c' m n wr)
    (fun _ _ _ i _ => s.size - (intOf i).toNat)
  case atStart => exact ⟨0, 0, 0, 0, Nat.zero_le _, rfl, rfl, rfl, by omega, H0.out⟩
  case round =>
    obtain ⟨n, m, c, h, hn, rfl, rfl, rfl, hck, hst⟩ := hrel
    have HST := Lib.hid hst
    have hh : h < 64 := by
      rw [hst.2.1]
      exact Nat.lt_of_lt_of_le (Nat.mod_lt _ (Nat.pow_pos (by omega))) (Nat.le_trans (Nat.pow_le_pow_right (by omega) (by omega : c ≤ 6)) (by decide))
    have hal0 := hst.2.2.2.1.cell 0
    have hal1 := hst.2.2.2.1.cell 1
    simp only [alphL, List.getElem?_cons_zero, List.getElem?_cons_succ] at hal0 hal1
    clear hst
    by_cases hlt : n < s.size
    · have hb := UInt8.toNat_lt s[n]
      have hor := or_i64 (h * 256) (s[n]).toNat (by omega) (by omega)
      have horl := or_low h (s[n]).toNat 8 (by omega)
      rw [show (2 : Nat) ^ 8 = 256 from rfl] at horl
      rw [horl] at hor
      have hcast : ((h * 256 : Nat) : Int) = (h : Int) * 256 := by simp
      rw [hcast] at hor
      have H1 := Lib.hid (HST.out.byte hlt)
      clear horl hcast
      go_wp2_with fail
      clear hor hal0 hal1
      go_loopw [6, 7, 8] (fun v h c wr => ∃ (m c' h' : Nat), c = .int .i64 c' ∧ h = .int .i64 h' ∧ c' < k + 8 ∧ EncSt L k s.data.toList B w w.heap.size (alphL L k fill) v h' c' m (n + 1) wr)
        (fun _ _ c _ => (intOf c).toNat)
      case atStart => exact ⟨m, c + 8, h * 256 + (s[n]).toNat, by go_num, by go_num, by omega, H1.out⟩
      case round =>
        obtain ⟨m, c, h, rfl, rfl, hck, hst⟩ := hrel
        have HST := Lib.hid hst
        have hh : h < 16384 := by
          rw [hst.2.1]
          exact Nat.lt_of_lt_of_le (Nat.mod_lt _ (Nat.pow_pos (by omega))) (Nat.le_trans (Nat.pow_le_pow_right (by omega) (by omega : c ≤ 14)) (by decide))
        have hal0 := hst.2.2.2.1.cell 0
        have hal1 := hst.2.2.2.1.cell 1
        simp only [alphL, List.getElem?_cons_zero, List.getElem?_cons_succ] at hal0 hal1
        clear hst
        by_cases hge : k ≤ c
        · obtain ⟨c2, rfl⟩ : ∃ c2, c = k + c2 := ⟨c - k, by omega⟩
          have hsub : ((k : Int) + (c2 : Int) - (k : Int)) = (c2 : Int) := by omega
          have hdl : h / 2 ^ c2 < L.size := by
            rw [hL, Nat.div_lt_iff_lt_mul (Nat.pow_pos (by omega)), ← Nat.pow_add]
            rw [HST.out.2.1]
            exact Nat.mod_lt _ (Nat.pow_pos (by omega))
          have hdc : ((h / 2 ^ c2 : Nat) : Int) = (h : Int) / 2 ^ c2 := by simp
          obtain ⟨x, HX⟩ : ∃ x, Hid (L.data.toList.getD (h / 2 ^ c2) 0 = x) := ⟨_, Lib.hid rfl⟩
          have hidx := run_index_str (P := Tryz.prog) 9 L (h / 2 ^ c2) Tryz.underlying9 hdl
          rw [HX.out, hdc] at hidx
          have hown := HST.out.2.2.1
          have HOWN := Lib.hid hown
          have hBs := HST.out.2.2.2.2.2
          have hgw : w.heap.size < wr.heap.size := by have := HB.out; omega
          have ag : u6.ownBlock ≠ some w.heap.size := fun e => by have h1 := (hown.lt _ e).1; have := HB.out; omega
          have hml : m ≤ 200000 := by
            have h1 := HST.out.1
            have h2 : 4 * m ≤ k * m := Nat.mul_le_mul_right m hk4
            omega
          clear hdl hdc hown
          go_wp2_with fail
          go_region_held3 (fun w' => w'.cell? ⟨w.heap.size, 0, none⟩ = some (.string L)) (first | go_keep | (rw [hgrow.cell_far _ (by simp; omega) (Ne.symm ag)]; assumption))
            ((refine step_append_lies _ (by rfl) _ _ _ (by rfl) B 5 i0 _ 1 1 Tryz.underlying76 hi0 hz0 hz1 hz2 rfl (by omega) u6 m _ (by rfl) ((HOWN.out.alloc _).drew) ⟨wr.heap.size, 0, none⟩ 1 1 [.int .u8 x.toNat] (by rfl) (by rfl) (World.news_of_block (cs := #[.int .u8 x.toNat]) (t := 5) (fr := (0, 0)) (heap_alloc_new wr _)) (by simp [Value.oneCell']) (by omega) (by unfold maxLen; omega) (by omega) (by simp; omega) (wr.heap.size + 1) (by simp) ?_; intro gg cap w3 hown3 hgrow hat hlt))
          go_wp2_with fail
          go_roundw
          case rel =>
            refine ⟨m + 1, c2, h % 2 ^ c2, rfl, by rw [mask_i64 h c2 hh (by omega)], by omega, HST.out.letter HX.out (by have := HB.out; omega) (by have := HB.out; omega) hgrow hown3⟩
          case measure => simp [intOf]; omega
        · have hck2 : c < k := by omega
          clear hge
          go_wp2_with fail
          go_roundw
          case rel => exact ⟨n + 1, m, c, h, by omega, by go_num, rfl, rfl, hck2, HST.out⟩
          case measure => simp [intOf]; omega
    · have hn2 : s.data.toList.take n = s.data.toList := List.take_of_length_le (by simp; omega)
      have hns : n = s.size := by omega
      have HNS := Lib.hid (And.intro hn2 hns)
      clear hn2 hns
      have hmM : mOf k s.size ≤ N := by
        rw [← HN.out]; unfold szA mOf
        rcases hk with rfl | rfl <;> (split <;> omega)
      have hM0 : 4 * mOf k s.size ≤ 8 * s.size + k := by
        have h1 := mOf_lt (by omega : 0 < k) s.size
        have h2 : 4 * mOf k s.size ≤ k * mOf k s.size := Nat.mul_le_mul_right _ hk4
        omega
      rcases (by omega : c = 0 ∨ 0 < c) with hc0 | hc0
      case' inl =>
        have hfin : ∃ a cap, u6 = .slice a (mOf k s.size) cap ∧ wr.ownsRow B 5 1 u6 (mOf k s.size) (lets L (encN k s.data.toList)) ∧ Below w.heap.size w wr ∧ B ≤ wr.heap.size := by
          have H := HST.out.done0 hc0 HNS.out.1 HNS.out.2 (by omega) (by simp)
          obtain ⟨a, cap, e⟩ := own_form H.1
          exact ⟨a, cap, e, H⟩
        have HF := Lib.hid hfin
        have hc1 : c ≤ 0 := by omega
        have hd0 : decide (0 < c) = false := by simp; omega
        clear hfin hc0
        go_wp2_with fail
      case' inr =>
        obtain ⟨q, hq⟩ : ∃ q, k = c + q := ⟨k - c, by omega⟩
        have hsub : ((k : Int) - (c : Int)) = (q : Int) := by omega
        have hq6 : q ≤ 6 := by omega
        have hlt2 : h * 2 ^ q < 2 ^ k := by
          have h1 : h < 2 ^ c := by rw [HST.out.2.1]; exact Nat.mod_lt _ (Nat.pow_pos (by omega))
          rw [hq, Nat.pow_add]
          exact Nat.mul_lt_mul_of_pos_right h1 (Nat.pow_pos (by omega))
        obtain ⟨d, HD⟩ : ∃ d, Hid (h * 2 ^ q = d) := ⟨_, Lib.hid rfl⟩
        have hdL : d < L.size := by rw [hL, ← HD.out]; exact hlt2
        have hd64 : d < 64 := by
          rw [← HD.out]
          exact Nat.lt_of_lt_of_le hlt2 (Nat.le_trans (Nat.pow_le_pow_right (by omega) hk6) (by decide))
        have hsh : wrap64 ((h : Int) * 2 ^ q) = (d : Int) := by rw [cast_shl h q d HD.out, small_wrap64 d hd64]
        have hwq : IntKind.i64.wrap (q : Int) = (q : Int) := small_wrap q (by omega)
        have hsh2 : IntKind.i64.wrap ((h : Int) * 2 ^ q) = (d : Int) := by rw [cast_shl h q d HD.out, small_wrap d hd64]
        obtain ⟨x, HX⟩ : ∃ x, Hid (L.data.toList.getD d 0 = x) := ⟨_, Lib.hid rfl⟩
        have hidx := run_index_str (P := Tryz.prog) 9 L d Tryz.underlying9 hdL
        rw [HX.out] at hidx
        have hown := HST.out.2.2.1
        have HOWN := Lib.hid hown
        have hBs := HST.out.2.2.2.2.2
        have hgw : w.heap.size < wr.heap.size := by have := HB.out; omega
        have ag : u6.ownBlock ≠ some w.heap.size := fun e => by have h1 := (hown.lt _ e).1; have := HB.out; omega
        have hml : m ≤ 200000 := by
          have h1 := HST.out.1
          have h2 : 4 * m ≤ k * m := Nat.mul_le_mul_right m hk4
          omega
        have HQ := Lib.hid hq
        clear hlt2 hdL hown hq
        go_wp2_with fail
        go_region_held3 (fun w' => w'.cell? ⟨w.heap.size, 0, none⟩ = some (.string L) ∧ w'.cell? ⟨w.heap.size, 1, none⟩ = some (.int .i64 k)) (first | go_keep | (go_split_ands; refine ⟨?_, ?_⟩ <;> (rw [hgrow.cell_far _ (by simp; omega) (Ne.symm ag)]; assumption)))
          ((refine step_append_lies _ (by rfl) _ _ _ (by rfl) B 5 i0 _ 1 1 Tryz.underlying76 hi0 hz0 hz1 hz2 rfl (by omega) u6 m _ (by rfl) ((HOWN.out.alloc _).drew) ⟨wr.heap.size, 0, none⟩ 1 1 [.int .u8 x.toNat] (by rfl) (by rfl) (World.news_of_block (cs := #[.int .u8 x.toNat]) (t := 5) (fr := (0, 0)) (heap_alloc_new wr _)) (by simp [Value.oneCell']) (by omega) (by unfold maxLen; omega) (by omega) (by simp; omega) (wr.heap.size + 1) (by simp) ?_; intro gg cap w3 hown3 hgrow hat hlt9))
        have hfin : ∃ a cp, Value.slice (some ⟨gg, 0, none⟩) (m + 1) cap = .slice a (mOf k s.size) cp ∧ w3.ownsRow B 5 1 (.slice (some ⟨gg, 0, none⟩) (m + 1) cap) (mOf k s.size) (lets L (encN k s.data.toList)) ∧ Below w.heap.size w w3 ∧ B ≤ w3.heap.size := by
          have e1 : k - c = q := by have := HQ.out; omega
          have H := HST.out.done1 (x := x) hc0 hck HNS.out.1 HNS.out.2 (by simp) (by rw [e1, HD.out]; exact HX.out) (by have := HB.out; omega) (by have := HB.out; omega) hgrow hown3
          exact ⟨_, _, by rw [H.1], H.2⟩
        have HF := Lib.hid hfin
        clear hfin hgrow hown3 hat hlt9 ag hidx hsh hsh2 hwq
        go_wp2_with fail
      all_goals
        go_loopw [6] (fun v wr => ∃ (j : Nat) (a : Option Addr) (cp : Nat), v = .slice a (mOf k s.size + j) cp ∧ mOf k s.size + j ≤ N ∧ wr.ownsRow B 5 1 v (mOf k s.size + j) (lets L (encN k s.data.toList) ++ List.replicate j (.int .u8 61)) ∧ Below w.heap.size w wr ∧ B ≤ wr.heap.size)
          (fun v _ => N - lenOf v)
        case atStart =>
          obtain ⟨a6, cp6, e6, hown6, hb6, hB6⟩ := HF.out
          exact ⟨0, a6, cp6, e6, hmM, by simpa using hown6, hb6, hB6⟩
        case round =>
          obtain ⟨j, a, cp, rfl, hj, hown, hbel, hBs⟩ := hrel
          have HO := Lib.hid hown
          clear hown
          by_cases hlt : mOf k s.size + j < N
          · go_wp2_with (at_builtin; refine wpList_append_own _ rfl (.tmp 74) (.tmp 75) 76 rfl B 5 i0 (.int .u8 0) 1 1 Tryz.underlying76 hi0 hz0 hz1 hz2 rfl (by decide) _ _ _ rfl (HO.out.alloc _) ⟨wr.heap.size, 0, none⟩ 1 1 [.int .u8 61] rfl rfl (World.news_of_block (cs := #[.int .u8 61]) (t := 5) (fr := (0, 0)) (heap_alloc_new wr _)) (by simp [Value.oneCell']) (by unfold maxLen; omega) (by omega) (by simp; omega) ?_; intro v4 w4 hown4 hg4 hnil4)
            obtain ⟨a4, cp4, rfl⟩ := own_form hown4
            have hb4 := (hbel.alloc hbel.size (.cells #[.int .u8 61] 5)).grown hg4 (by simp; have := hbel.size; omega) (fun i e => by have h1 := (HO.out.lt i e).1; have := HB.out; omega)
            have hB4 : B ≤ w4.heap.size := by have := hg4.size; simp at this; omega
            have H4 := Lib.hid (And.intro hown4 (And.intro hb4 hB4))
            clear hown4 hb4 hB4 hg4 hnil4
            go_wp2_with fail
            go_roundw
            case rel =>
              refine ⟨j + 1, a4, cp4, by rw [← Nat.add_assoc], by omega, ?_, H4.out.2.1, H4.out.2.2⟩
              have h := H4.out.1
              rw [List.append_assoc, ← List.replicate_succ'] at h
              exact h
            case measure => simp only [lenOf_slice]; omega
          · have hjN : mOf k s.size + j = N := by omega
            have hx : lets L (encN k s.data.toList) ++ List.replicate j (.int .u8 61) = (((encN k s.data.toList).map fun d => L.data.toList.getD d 0) ++ List.replicate j 61).map bv := by
              simp [lets, bv]
            have hcv := own_text (P := Tryz.prog) (by rw [← hx]; exact HO.out) 76 9 Tryz.underlying76 Tryz.underlying5 Tryz.underlying9
            have HJ := Lib.hid hjN
            obtain ⟨r, HR⟩ : ∃ r : ByteArray, Hid (⟨(((encN k s.data.toList).map fun d => L.data.toList.getD d 0) ++ List.replicate j 61).toArray⟩ = r) := ⟨_, Lib.hid rfl⟩
            rw [HR.out] at hcv
            clear hx hjN
            go_wp2_with fail
            go_ret
            refine ⟨⟨r, rfl, ?_⟩, hbel⟩
            rw [← HR.out, HN.out]
            have e : N - mOf k s.size = j := by have := HJ.out; omega
            rw [e]
end Go.Proofs.YtheidjnapoipaaaGreatDoor
