/- The statement of FormatFits: whatever comes in, the law answers true, and what came in reads as it did. (In one text with what it leans on: IRef, RefDec, IRefP, IRefB, FRef, FRef2, FLight, FormatFitsW, FormatFits.) -/
import Derived.WalkKit
import Derived.WalkSpells
import Derived.WalkLawsBesides
import Derived.Lib.Hide
import Derived.Deep.RegionHeld3
import Derived.ProofKit
import Derived.OpenShut
import Derived.ShutString
import Derived.SizedLaws
import Derived.LaidMore
import Derived.Lay
import Derived.Stop.Joined
import Derived.SevenTiedAt
import Derived.Deep.DeepHandedRow
import Derived.Test.YtcecibopanfmgaaGreatDoorFormatFitsAll1
import Derived.Test.YtcecibopanfmgaaGreatDoorRows
import Derived.Test.YtcecibopanfmgaaGreatDoorSRnd
import Derived.Test.YtcecibopanfmgaaGreatDoorFSmall
import Derived.Test.YtcecibopanfmgaaGreatDoorFStrs
import Derived.Test.YtcecibopanfmgaaGreatDoorCards
import Derived.Test.YtcecibopanfmgaaGreatDoorTie
import Derived.Test.YtcecibopanfmgaaGreatDoorFOpen
import Derived.Test.YtcecibopanfmgaaGreatDoorLaid8
namespace Go.Proofs.YtcecibopanfmgaaGreatDoor
open Go.RowKit
set_option linter.unusedVariables false

/-- The first k bytes, noughts behind. -/
def irow (l : List UInt8) (k : Nat) : List Value := (l.take k).map bv ++ List.replicate (16 - k) (.int .u8 0)
theorem irow_length (l : List UInt8) (hl : l.length = 16) {k : Nat} (h : k ≤ 16) : (irow l k).length = 16 := by unfold irow; simp [hl]; omega
theorem irow_set (l : List UInt8) (hl : l.length = 16) {k : Nat} (h : k < 16) (x : UInt8) (hx : l[k]? = some x) : (irow l k).set k (.int .u8 x.toNat) = irow l (k + 1) := by
  unfold irow
  have hk : ((l.take k).map bv).length = k := by simp [hl]; omega
  have e : 16 - k = (16 - (k + 1)) + 1 := by omega
  rw [e, List.replicate_succ, List.set_append_right _ _ (by omega), hk, Nat.sub_self, List.set_cons_zero, List.take_add_one, hx, List.map_append, List.append_assoc]
  rfl
theorem irow_all (l : List UInt8) (hl : l.length = 16) : irow l 16 = l.map bv := by
  unfold irow
  rw [List.take_of_length_le (by rw [hl]; exact Nat.le_refl _)]
  simp
theorem u8_info6 : (Tryz.prog.info? 5).map (fun i => (i.zero, i.size, i.bytes)) = some (some (.int .u8 0), 1, 1) := by kernel_rfl
theorem made16 : madeCells #[.int .u8 0] 16 = z16.toArray := by kernel_rfl

set_option maxRecDepth 20000 in
set_option maxHeartbeats 2000000 in
theorem of_any (s : ByteArray) (hs : s.size = 16) (w : World) :
    Calls Tryz.prog 63 #[.string s] w fun e w' => e = .returned (.agg (s.data.toList.map bv).toArray) ∧ Below w.heap.size w w' := by
  have hz := (zero_of_info u16_info).1
  have hl : s.data.toList.length = 16 := by rw [← hs]; simp
  obtain ⟨l, hll⟩ : ∃ l, s.data.toList = l := ⟨_, rfl⟩
  have hget : ∀ k (h : k < s.size), l[k]? = some s[k] := fun k h => by
    rw [← hll, Array.getElem?_toList, Array.getElem?_eq_getElem h]; rfl
  rw [hll] at hl ⊢
  have r0 := (Row.new w 45 z16).alloc (.cells z16.toArray 45)
  have r1 := Row.new (w.alloc (.cells z16.toArray 45)) 45 z16
  rw [World.size_alloc] at r1
  have b1 : Below w.heap.size w ((w.alloc (.cells z16.toArray 45)).alloc (.cells z16.toArray 45)) := ((Below.refl _ _).alloc (Nat.le_refl _) _).alloc (by simp) _
  have H := Lib.hid (And.intro r0 (And.intro r1 b1))
  have HL := Lib.hid (And.intro hl (And.intro hget hs))
  have hsI : (16 : Int) ≤ (s.size : Int) := by omega
  clear hll hl hget hs r0 r1 b1
  go_enter Tryz.func63, Tryz.ntmps63
  go_wp2
  obtain ⟨r0, r1, b1⟩ := H.out
  generalize (w.alloc (.cells z16.toArray 45)).alloc (.cells z16.toArray 45) = w1 at r0 r1 b1 ⊢
  clear H
  go_loopw [4] (fun i wr => ∃ k : Nat, k ≤ 16 ∧ i = .int .i64 k ∧ Row wr (w.heap.size + 1) 45 (irow l k) ∧ Row wr w.heap.size 45 z16 ∧ Below w.heap.size w wr) (fun i _ => 16 - (intOf i).toNat)
  case atStart => exact ⟨0, Nat.zero_le _, rfl, r1, r0, b1⟩
  case round =>
    obtain ⟨k, hk, rfl, h1, h3, h2⟩ := hrel
    clear r1 r0 b1
    by_cases hlt : k < 16
    · have hks : k < s.size := by omega
      obtain ⟨x, hx⟩ : ∃ x, s[k] = x := ⟨_, rfl⟩
      have hlx := HL.out.2.1 k hks
      rw [hx] at hlx
      obtain ⟨v0, hc0⟩ : ∃ v, wr.cell? ⟨w.heap.size + 1, k, none⟩ = some v := by
        rw [h1.cell]; exact ⟨_, List.getElem?_eq_getElem (by rw [irow_length l HL.out.1 hk]; exact hlt)⟩
      have hf0 := h1.frozen k
      have hs1 := h1.set k (.int .u8 (x.toNat : Int))
      rw [irow_set l HL.out.1 hlt x hlx] at hs1
      have hs2 := h2.setCell (p := ⟨w.heap.size + 1, k, none⟩) (by show w.heap.size ≤ w.heap.size + 1; omega) (.int .u8 (x.toNat : Int))
      have hs3 := h3.far (p := ⟨w.heap.size + 1, k, none⟩) (by show w.heap.size ≠ w.heap.size + 1; omega) (.int .u8 (x.toNat : Int))
      have H := Lib.hid (And.intro hs1 (And.intro hs3 hs2))
      have hkI : (k : Int) < 16 := by omega
      clear hs1 hs2 hs3 h1 h2 h3 hlx
      go_wp2
      go_roundw
      case rel => exact ⟨k + 1, by omega, by go_num, H.out.1, H.out.2.1, H.out.2.2⟩
      case measure => simp [intOf]; omega
    · have hk2 : k = 16 := by omega
      rw [hk2, irow_all l HL.out.1] at h1
      have hge : 16 ≤ k := by omega
      have hone := one_bytes l
      obtain ⟨C, hC⟩ : ∃ C, l.map bv = C := ⟨_, rfl⟩
      have hCl : C.length = 16 := by rw [← hC, List.length_map, HL.out.1]
      rw [hC] at h1 hone
      have HO := Lib.hid (And.intro hone (And.intro hCl hC))
      clear hk2 hlt hk hone hC hCl
      go_wp2_with (first
        | (refine wpList_load_row rfl 45 (.tmp 3) rfl (w.heap.size + 1) rfl 45 C.toArray (0, 0) _ h1 Tryz.underlying45 rfl (by rw [u16_size, List.size_toArray, HO.out.2.1]) ?_)
        | (refine wpList_store_row rfl 45 (.tmp 2) (.tmp 14) rfl w.heap.size C.toArray rfl rfl 45 z16.toArray h3 (by rw [u16_size, List.size_toArray, HO.out.2.1]) (by rw [List.size_toArray, List.size_toArray, HO.out.2.1]; rfl) HO.out.1 ?_))
      have hr := h3.put C
      have hbs := below_setRow (B := w.heap.size) h2 (Nat.le_refl _) C.toArray
      exact bodyPost_ret (v := .agg C.toArray) (results_cell_row rfl _ _ w.heap.size 45 C.toArray (0, 0) _ rfl hr Tryz.underlying45 rfl (by rw [u16_size, List.size_toArray, HO.out.2.1])) rfl ⟨by rw [HO.out.2.2], hbs⟩
end Go.Proofs.YtcecibopanfmgaaGreatDoor

namespace Go.Proofs.YtcecibopanfmgaaGreatDoor
open Go.RowKit
set_option linter.unusedVariables false

theorem ix_nil (c : UInt8) (l : List UInt8) (j : Nat) (hj : ∀ i, i < j → l[i]? ≠ some c) (hl : l[j]? = some c) : Lib.indexByte l c = j := by
  have hge := Lib.indexByte_ge l c
  rcases (by omega : Lib.indexByte l c = -1 ∨ 0 ≤ Lib.indexByte l c) with h | h
  · exact absurd hl (Lib.indexByte_none h j)
  · obtain ⟨o, ho⟩ := Int.eq_ofNat_of_zero_le h
    obtain ⟨h1, h2⟩ := Lib.indexByte_some ho
    rw [ho]
    have : o = j := by
      rcases Nat.lt_trichotomy o j with h3 | h3 | h3
      · exact absurd h1 (hj o h3)
      · exact h3
      · exact absurd hl (h2 j h3)
    rw [this]

theorem ix_none (c : UInt8) (l : List UInt8) (hj : ∀ i, i < l.length → l[i]? ≠ some c) : Lib.indexByte l c = -1 := by
  have hge := Lib.indexByte_ge l c
  rcases (by omega : Lib.indexByte l c = -1 ∨ 0 ≤ Lib.indexByte l c) with h | h
  · exact h
  · obtain ⟨o, ho⟩ := Int.eq_ofNat_of_zero_le h
    obtain ⟨h1, _⟩ := Lib.indexByte_some ho
    have h2 : o < l.length := by
      rcases Nat.lt_or_ge o l.length with h3 | h3
      · exact h3
      · rw [List.getElem?_eq_none h3] at h1; cases h1
    exact absurd h1 (hj o h2)

set_option maxRecDepth 20000 in
set_option maxHeartbeats 400000 in
theorem refIndex_any (L : ByteArray) (c : UInt8) (w : World) (hs : L.size ≤ 1000) :
    Calls Tryz.prog 68 #[.string L, .int .u8 c.toNat] w fun e w' => e = .returned (.int .i64 (ixI L c)) ∧ w = w' := by
  have hc := UInt8.toNat_lt c
  go_enter Tryz.func68, Tryz.ntmps68
  go_wp2
  go_loop [5] (fun i => ∃ j : Nat, j ≤ L.size ∧ i = .int .i64 j ∧ Hid (∀ i, i < j → L.data.toList[i]? ≠ some c)) (fun i => L.size - (intOf i).toNat)
  case atStart => exact ⟨0, Nat.zero_le _, rfl, fun i hi => by omega⟩
  case round =>
    obtain ⟨j, hj, rfl, HJ⟩ := hrel
    by_cases hlt : j < L.size
    · have hg : L.data.toList[j]? = some L[j] := by
        rw [List.getElem?_eq_getElem (by simpa using hlt)]; rfl
      have HG := Lib.hid hg
      clear hg
      by_cases he : L[j] = c
      · have hb : (((L[j]).toNat : Int) == (c.toNat : Int)) = true := by rw [he]; simp
        have hr : Hid (ixI L c = j) := ix_nil c _ j HJ.out (by rw [HG.out, he])
        clear he
        go_wp2
        go_ret
        exact ⟨ret_int hr.out.symm, rfl⟩
      · have hb : (((L[j]).toNat : Int) == (c.toNat : Int)) = false := by
          rw [beq_eq_false_iff_ne]
          intro h
          apply he
          exact UInt8.toNat_inj.mp (by omega)
        have hnext : Hid (∀ i, i < j + 1 → L.data.toList[i]? ≠ some c) := by
          intro i hi h
          rcases (by omega : i < j ∨ i = j) with h1 | h1
          · exact HJ.out i h1 h
          · subst h1; rw [HG.out] at h; exact he (Option.some.inj h)
        clear he
        go_wp2
        go_round
        case rel => exact ⟨j + 1, by omega, by go_num, hnext⟩
        case measure => simp [intOf]; omega
    · have hr : Hid (ixI L c = -1) := ix_none c _ (fun i hi => HJ.out i (by rw [Array.length_toList] at hi; have : i < L.size := hi; omega))
      go_wp2
      go_ret
      exact ⟨ret_int hr.out.symm, rfl⟩

/-- What holds of the reading bit by bit: of a number X of b bits q bytes are there, c bits are held. -/
def BitSt (X b B : Nat) (w0 : World) (v : Value) (h c q : Nat) (wr : World) : Prop :=
  b = 8 * q + c ∧ c < 8 ∧ h = X % 2 ^ c ∧ wr.ownsRow B 5 1 v q ((putL (X / 2 ^ c) q).map bv) ∧ Below w0.heap.size w0 wr ∧ B ≤ wr.heap.size

theorem BitSt.small {X b B : Nat} {w0 : World} {v : Value} {h c q β : Nat} {wr : World} (H : BitSt X b B w0 v h c q wr) (hβ : β < 2) (hc : c + 1 < 8) : BitSt (2 * X + β) (b + 1) B w0 v (2 * h + β) (c + 1) q wr := by
  obtain ⟨e1, e2, e3, e4, e5, e6⟩ := H
  have p : (2 : Nat) ^ (c + 1) = 2 * 2 ^ c := Nat.pow_succ'
  refine ⟨by omega, hc, ?_, ?_, e5, e6⟩
  · rw [p, Nat.mod_mul, e3]
    have h1 : (2 * X + β) % 2 = β := by omega
    have h2 : (2 * X + β) / 2 = X := by omega
    rw [h1, h2]; omega
  · have h2 : (2 * X + β) / 2 ^ (c + 1) = X / 2 ^ c := by
      rw [p, ← Nat.div_div_eq_div_mul]
      congr 1; omega
    rw [h2]; exact e4

theorem BitSt.byte {X b B : Nat} {w0 : World} {v v' : Value} {h q β : Nat} {wr w3 : World} {cs : Array Value} (H : BitSt X b B w0 v h 7 q wr) (hβ : β < 2) (hw : w0.heap.size ≤ B)
    (hgrow : (wr.alloc (.cells cs 5)).grownBy w3 v.ownBlock)
    (hown : w3.ownsRow B 5 1 v' (q + 1) ((putL (X / 2 ^ 7) q).map bv ++ [.int .u8 (UInt8.ofNat (2 * h + β)).toNat])) : BitSt (2 * X + β) (b + 1) B w0 v' 0 0 (q + 1) w3 := by
  obtain ⟨e1, e2, e3, e4, e5, e6⟩ := H
  have hz : (wr.alloc (.cells cs 5)).heap.size = wr.heap.size + 1 := by simp
  refine ⟨by omega, by omega, by simp [Nat.mod_one], ?_, ?_, ?_⟩
  · have hq : putL ((2 * X + β) / 2 ^ 0) (q + 1) = putL (X / 2 ^ 7) q ++ [UInt8.ofNat (2 * h + β)] := by
      rw [putL, Nat.pow_zero, Nat.div_one]
      have h1 : (2 * X + β) / 256 = X / 2 ^ 7 := by
        have : (2 : Nat) ^ 7 = 128 := by decide
        rw [this]; omega
      have h2 : (2 * X + β) % 256 = 2 * h + β := by
        have : (2 : Nat) ^ 7 = 128 := by decide
        rw [this] at e3; omega
      rw [h1, h2]
    rw [hq, List.map_append]
    exact hown
  · refine (e5.alloc e5.size _).grown hgrow (by rw [hz]; have := e5.size; omega) (fun i e => ?_)
    have := (e4.lt i e).1
    omega
  · have := hgrow.size
    omega

/-- A bit of a letter's number. -/
theorem letter_bits (v k p : Nat) (hp : p < k) : v / 2 ^ (k - (p + 1)) = 2 * (v / 2 ^ (k - p)) + v / 2 ^ (k - 1 - p) % 2 := by
  have e1 : k - (p + 1) = k - 1 - p := by omega
  have e2 : k - p = (k - 1 - p) + 1 := by omega
  rw [e1, e2, Nat.pow_succ, ← Nat.div_div_eq_div_mul]
  omega

/-- A letter that is none, ahead of what fills up: the text is no writing. -/
theorem bad_letter (kind : Nat) (t D : ByteArray) (L : ByteArray) (k : Nat) (hk : k = 4 ∨ k = 6) (hk1 : kind = 1 → k = 6) (hix : ∀ d, d < 2 ^ k → ixI L (L.data.toList.getD d 0) = d) (i m : Nat) (hi : i < m) (hm : m ≤ t.size)
    (hneg : ixI L (t[i]'(by omega)) < 0) (hT : ∀ i, m ≤ i → i < t.size → kind = 1 ∧ t.data.toList.getD i 0 = 61) (hend : m = 0 ∨ kind ≠ 1 ∨ t.data.toList.getD (m - 1) 0 ≠ 61) : encS L k (filB kind) D ≠ t := by
  intro e
  have hl : t.data.toList = encL L k (filB kind) D.data.toList := by rw [← e]; rfl
  have hDl : D.data.toList.length = D.size := by simp
  have hlen : t.size = mOf k D.size + (szA k (filB kind) D.size - mOf k D.size) := by
    have h1 : t.data.toList.length = t.size := by simp
    rw [← h1, hl]
    unfold encL
    rw [List.length_append, List.length_map, encN_length, List.length_replicate, hDl]
  have hge : mOf k D.size ≤ i := by
    rcases Nat.lt_or_ge i (mOf k D.size) with h | h
    · exfalso
      have h2 : i < (encN k D.data.toList).length := by rw [encN_length, hDl]; exact h
      have h3 : t.data.toList[i]? = some (L.data.toList.getD ((encN k D.data.toList)[i]) 0) := by
        rw [hl]
        unfold encL
        rw [List.getElem?_append_left (by rw [List.length_map]; exact h2), List.getElem?_map, List.getElem?_eq_getElem h2]
        rfl
      have h4 : t.data.toList[i]? = some (t[i]'(by omega)) := by
        rw [List.getElem?_eq_getElem (by rw [Array.length_toList]; show i < t.size; omega)]; rfl
      rw [h4] at h3
      have h5 := Option.some.inj h3
      rw [h5, hix _ (encN_lt k _ _ (List.getElem_mem h2))] at hneg
      omega
    · exact h
  have hfill : ∀ j, mOf k D.size ≤ j → j < t.size → t.data.toList.getD j 0 = 61 := by
    intro j h1 h2
    rw [hl]
    unfold encL
    rw [List.getD_eq_getElem?_getD, List.getElem?_append_right (by rw [List.length_map, encN_length, hDl]; exact h1), List.length_map, encN_length, hDl, List.getElem?_replicate, if_pos (by omega)]
    rfl
  rcases hend with h | h | h
  · omega
  · have h0 : szA k (filB kind) D.size ≤ mOf k D.size := by
      have hf : filB kind = false := by unfold filB; rw [decide_eq_false_iff_not]; exact h
      rw [hf]
      rcases hk with e | e
      · subst e; simp only [szA, mOf, Bool.false_and, Bool.false_eq_true, if_false]; omega
      · subst e; simp only [szA, mOf, Bool.false_and, Bool.false_eq_true, if_false]; omega
    omega
  · exact h (hfill (m - 1) (by omega) (by omega))

/-- What fills up is no letter. -/
theorem rest_none {kind_ : Nat} (L t : ByteArray) (m : Nat) (hT : ∀ i, m ≤ i → i < t.size → kind_ = 1 ∧ t.data.toList.getD i 0 = 61) (hf : ixI L 61 < 0) : preN L (t.data.toList.drop m) = [] := by
  rcases Nat.lt_or_ge m t.size with h | h
  · have h1 := (hT m (Nat.le_refl _) h).2
    have hl : m < t.data.toList.length := by rw [Array.length_toList]; exact h
    rw [List.drop_eq_getElem_cons hl]
    have h2 : t.data.toList[m] = 61 := by
      rw [← h1, List.getD_eq_getElem?_getD, List.getElem?_eq_getElem hl]; rfl
    rw [h2, preN, if_neg (by omega)]
  · rw [List.drop_of_length_le (by rw [Array.length_toList]; exact h)]
    rfl

/-- What is read: behind a name, that a walk doesn't look into it. -/
def DecPost (kind : Nat) (t : ByteArray) (e : Ending) : Prop := ∃ (x : ByteArray) (ok : Bool), e = .returned (.tuple #[.string x, .bool ok]) ∧
      Hid ((ok = true → x = decS (letS kind) (bitK kind) t ∧ encS (letS kind) (bitK kind) (filB kind) (decS (letS kind) (bitK kind) t) = t) ∧ (ok = false → encS (letS kind) (bitK kind) (filB kind) (decS (letS kind) (bitK kind) t) ≠ t)) ∧ Hid (kind = 0 → x = if (preN (letS kind) t.data.toList).length = t.size then decS (letS kind) (bitK kind) t else ⟨#[]⟩)


set_option maxRecDepth 20000 in
set_option maxHeartbeats 2000000 in
theorem refDecode_det (kind : Nat) (t : ByteArray) (w : World) (hkd : kind ≤ 2) (hs : t.size ≤ 10000) :
    Calls Tryz.prog 38 #[.int .i64 kind, .string t] w fun e w' => DecPost kind t e ∧ Below w.heap.size w w' := by
  obtain ⟨i0, hi0, hz0, hz1, hz2⟩ := info_parts u8_info
  obtain ⟨L, HL⟩ : ∃ L, Hid (letS kind = L) := ⟨_, Lib.hid rfl⟩
  obtain ⟨k, HK⟩ : ∃ k, Hid (bitK kind = k) := ⟨_, Lib.hid rfl⟩
  have hk46 : k = 4 ∨ k = 6 := by rw [← HK.out]; exact bit_k _
  have HLS : Hid (L.size = 2 ^ k) := by rw [← HL.out, ← HK.out]; exact Lib.hid (let_size _)
  have hk4 : 4 ≤ k := by omega
  have hk6 : k ≤ 6 := by omega
  have hLs : L.size ≤ 1000 := by
    rw [HLS.out]
    exact Nat.le_trans (Nat.pow_le_pow_right (by omega) hk6) (by decide)
  have HK46 := Lib.hid hk46
  clear hk46
  go_enter Tryz.func38, Tryz.ntmps38
  go_wp2_with fail
  refine (refLetters_any kind _ hkd).mono ?_
  rintro e w1 ⟨rfl, rfl⟩
  rw [HL.out]
  go_wp2_with fail
  refine (refBits_any kind _ hkd).mono ?_
  rintro e w1 ⟨rfl, rfl⟩
  rw [HK.out]
  go_wp2_with fail
  go_loop [8] (fun n => ∃ m : Nat, m ≤ t.size ∧ n = .int .i64 m ∧ Hid (∀ i, m ≤ i → i < t.size → kind = 1 ∧ t.data.toList.getD i 0 = 61)) (fun n => (intOf n).toNat)
  case atStart => exact ⟨t.size, Nat.le_refl _, rfl, fun i h1 h2 => by omega⟩
  case round =>
    obtain ⟨m, hm, rfl, HT⟩ := hrel
    by_cases hcont : kind = 1 ∧ 0 < m ∧ t.data.toList.getD (m - 1) 0 = 61
    · obtain ⟨h1, h2, h3⟩ := hcont
      have hb1 : ((kind : Int) == 1) = true := by simp; omega
      have hidx := run_index_str (P := Tryz.prog) 9 t (m - 1) Tryz.underlying9 (by omega)
      rw [h3] at hidx
      have hcast : ((m - 1 : Nat) : Int) = (m : Int) - 1 := by omega
      rw [hcast] at hidx
      have hnext : Hid (∀ i, m - 1 ≤ i → i < t.size → kind = 1 ∧ t.data.toList.getD i 0 = 61) := by
        intro i h4 h5
        rcases (by omega : i = m - 1 ∨ m ≤ i) with h6 | h6
        · subst h6; exact ⟨h1, h3⟩
        · exact HT.out i h6 h5
      have HC := Lib.hid hcast
      clear h1 h3 hcast
      go_wp2_with fail
      go_round
      case rel => exact ⟨m - 1, by omega, by rw [HC.out], hnext⟩
      case measure => simp [intOf]; omega
    · have hm0 : m ≤ 10000 := by omega
      rcases (by
        by_cases h1 : kind = 1
        · rcases Nat.eq_zero_or_pos m with h | h
          · exact .inr (.inl ⟨h1, h⟩)
          · exact .inr (.inr ⟨h1, h, fun e => hcont ⟨h1, h, e⟩⟩)
        · exact .inl h1 : kind ≠ 1 ∨ (kind = 1 ∧ m = 0) ∨ (kind = 1 ∧ 0 < m ∧ t.data.toList.getD (m - 1) 0 ≠ 61)) with h | ⟨h1, h⟩ | ⟨h1, h2, h3⟩
      case' inl =>
        have hb1 : ((kind : Int) == 1) = false := by simp; omega
        have HEND : Hid (m = 0 ∨ kind ≠ 1 ∨ t.data.toList.getD (m - 1) 0 ≠ 61) := .inr (.inl h)
        clear h hcont
        go_wp2_with fail
      case' inr.inl =>
        have hle : m ≤ 0 := by omega
        have hb1 : ((kind : Int) == 1) = true := by simp; omega
        have hd0 : decide (0 < m) = false := by simp; omega
        have HEND : Hid (m = 0 ∨ kind ≠ 1 ∨ t.data.toList.getD (m - 1) 0 ≠ 61) := .inl h
        clear h h1 hcont
        go_wp2_with fail
        clear hle hd0
      case' inr.inr =>
        have hb1 : ((kind : Int) == 1) = true := by simp; omega
        have hidx := run_index_str (P := Tryz.prog) 9 t (m - 1) Tryz.underlying9 (by omega)
        obtain ⟨y, HY⟩ : ∃ y, Hid (t.data.toList.getD (m - 1) 0 = y) := ⟨_, Lib.hid rfl⟩
        rw [HY.out] at hidx h3
        have hcast : ((m - 1 : Nat) : Int) = (m : Int) - 1 := by omega
        rw [hcast] at hidx
        have hb2 : ((y.toNat : Int) == 61) = false := by
          rw [beq_eq_false_iff_ne]
          intro e
          apply h3
          exact UInt8.toNat_inj.mp (by show y.toNat = 61; omega)
        have HEND : Hid (m = 0 ∨ kind ≠ 1 ∨ t.data.toList.getD (m - 1) 0 ≠ 61) := .inr (.inr (by rw [HY.out]; exact h3))
        clear h1 h3 hcont hcast
        go_wp2_with fail
        clear hidx hb2
      all_goals
        go_loopw [9, 10, 11, 12] (fun v h c i wr => ∃ (i' h' c' q : Nat) (ds : List Nat), i' ≤ m ∧ i = .int .i64 i' ∧ h = .int .i64 h' ∧ c = .int .i64 c' ∧ Hid (ds.length = i' ∧ (∀ d ∈ ds, d < 2 ^ k) ∧ preN L t.data.toList = ds ++ preN L (t.data.toList.drop i') ∧ BitSt (ug (2 ^ k) ds) (k * i') w.heap.size w v h' c' q wr))
          (fun _ _ _ i _ => m - (intOf i).toNat)
        case atStart => exact ⟨0, 0, 0, 0, [], Nat.zero_le _, rfl, rfl, rfl, by exact Lib.hid ⟨rfl, by simp, by simp, by omega, by omega, by simp [ug], World.ownsRow_nil _ _ _ _, Below.refl _ _, Nat.le_refl _⟩⟩
        case round =>
          obtain ⟨i, h, c, q, ds, hi, rfl, rfl, rfl, HST⟩ := hrel
          by_cases hlt : i < m
          · have hit : i < t.size := by omega
            by_cases hneg : ixI L t[i] < 0
            · have HPL : Hid ((preN L t.data.toList).length = i) := by
                show _ = _
                rw [HST.out.2.2.1, List.length_append, HST.out.1, drop_cons t i hit, preN, if_neg (by omega), List.length_nil, Nat.add_zero]
              have cI : Hid (∀ W : World, Calls Tryz.prog 68 #[.string L, .int .u8 (t[i]).toNat] W fun e w' => e = .returned (.int .i64 (ixI L t[i])) ∧ W = w') := fun W => refIndex_any L t[i] W hLs
              have HBAD : Hid (encS L k (filB kind) (decS L k t) ≠ t) := bad_letter kind t (decS L k t) L k (HK46.out) (by intro h1; rw [← HK.out]; unfold bitK; rw [if_neg (by omega)]) (fun d hd => by rw [← HL.out]; exact let_ix kind d (by rw [HK.out]; exact hd)) i m hlt hm hneg HT.out HEND.out
              go_wp2_with fail
              refine (cI.out _).mono ?_
              rintro e w3 ⟨rfl, rfl⟩
              go_wp2_with fail
              go_ret2
              refine ⟨?_, HST.out.2.2.2.2.2.2.2.1⟩
              unfold DecPost
              refine ⟨⟨#[]⟩, false, rfl, ?_, ?_⟩
              · rw [HL.out, HK.out]
                exact Lib.hid ⟨(fun h => by cases h), fun _ => HBAD.out⟩
              · rw [HL.out, HK.out]
                exact Lib.hid (fun _ => by rw [if_neg (by rw [HPL.out]; omega)])
            · obtain ⟨d, hd⟩ := Int.eq_ofNat_of_zero_le (Int.not_lt.mp hneg)
              have hdl : d < 2 ^ k := by have := ix_lt hd; rwa [HLS.out] at this
              have hd64 : d < 64 := Nat.lt_of_lt_of_le hdl (Nat.le_trans (Nat.pow_le_pow_right (by omega) hk6) (by decide))
              have cI : Hid (∀ W : World, Calls Tryz.prog 68 #[.string L, .int .u8 (t[i]).toNat] W fun e w' => e = .returned (.int .i64 (d : Int)) ∧ W = w') := fun W => by
                rw [← hd]; exact refIndex_any L t[i] W hLs
              have hpre2 : Hid ((ds ++ [d]).length = i + 1 ∧ (∀ x ∈ ds ++ [d], x < 2 ^ k) ∧ preN L t.data.toList = (ds ++ [d]) ++ preN L (t.data.toList.drop (i + 1))) := by
                refine ⟨by rw [List.length_append, HST.out.1]; rfl, fun x hx => ?_, ?_⟩
                · rcases List.mem_append.mp hx with h1 | h1
                  · exact HST.out.2.1 x h1
                  · rw [List.mem_singleton.mp h1]; exact hdl
                · rw [HST.out.2.2.1, drop_cons t i hit, preN, if_pos (by omega), hd, List.append_assoc]; rfl
              have HDL := Lib.hid hdl
              clear hneg hd hdl
              go_wp2_with fail
              refine (cI.out _).mono ?_
              rintro e w3 ⟨rfl, rfl⟩
              go_wp2_with fail
              go_loopw [9, 10, 11, 14] (fun v h c z wr => ∃ (p h' c' q : Nat) (z' : Int), p ≤ k ∧ z = .int .i64 z' ∧ h = .int .i64 h' ∧ c = .int .i64 c' ∧ -1 ≤ z' ∧ z' ≤ 5 ∧ Hid (z' = (k : Int) - 1 - (p : Int) ∧ BitSt (ug (2 ^ k) ds * 2 ^ p + d / 2 ^ (k - p)) (k * i + p) w.heap.size w v h' c' q wr))
                (fun _ _ _ z _ => (intOf z + 1).toNat)
              case atStart =>
                refine ⟨0, h, c, q, (k : Int) - 1, Nat.zero_le _, rfl, rfl, rfl, by omega, by omega, ?_⟩
                refine Lib.hid ⟨by omega, ?_⟩
                have h1 : d / 2 ^ (k - 0) = 0 := Nat.div_eq_of_lt HDL.out
                rw [h1, Nat.pow_zero, Nat.mul_one, Nat.add_zero, Nat.add_zero]
                exact HST.out.2.2.2
              case round =>
                obtain ⟨p, h5, c5, q5, z, hp, rfl, rfl, rfl, hz1', hz2', HB5⟩ := hrel
                have hc8 : c5 < 8 := HB5.out.2.2.1
                have hh : h5 < 128 := by
                  rw [HB5.out.2.2.2.1]
                  exact Nat.lt_of_lt_of_le (Nat.mod_lt _ (Nat.pow_pos (by omega))) (Nat.le_trans (Nat.pow_le_pow_right (by omega) (by omega : c5 ≤ 7)) (by decide))
                by_cases hpk : p < k
                · obtain ⟨zn, hzn⟩ := Int.eq_ofNat_of_zero_le (a := z) (by have := HB5.out.1; omega)
                  subst hzn
                  have HZ : Hid (zn = k - 1 - p) := by have := HB5.out.1; exact Lib.hid (by omega)
                  go_wp2_with fail
                  go_loop [15, 16] (fun v x => ∃ x' : Nat, x' ≤ zn ∧ x = .int .i64 x' ∧ v = .int .i64 ((d / 2 ^ x' : Nat) : Int)) (fun _ x => zn - (intOf x).toNat)
                  case atStart => exact ⟨0, Nat.zero_le _, rfl, by simp⟩
                  case round =>
                    obtain ⟨x, hx, rfl, rfl⟩ := hrel
                    obtain ⟨V, HV⟩ : ∃ V, Hid (d / 2 ^ x = V) := ⟨_, Lib.hid rfl⟩
                    have hV : V < 64 := by rw [← HV.out]; exact Nat.lt_of_le_of_lt (Nat.div_le_self _ _) hd64
                    rw [HV.out]
                    have HVN : Hid (((d / 2 ^ (x + 1) : Nat) : Int) = (V : Int) / 2) := by
                      show _ = _
                      rw [Nat.pow_succ, ← Nat.div_div_eq_div_mul, HV.out]; simp
                    by_cases hx2 : x < zn
                    · go_wp2_with fail
                      go_round
                      case rel => exact ⟨x + 1, by omega, by go_num, by rw [HVN.out]⟩
                      case measure => simp [intOf]; omega
                    · have HXZ : Hid (x = zn) := Lib.hid (by omega)
                      have hβ : V % 2 < 2 := Nat.mod_lt _ (by omega)
                      have hX : Hid (2 * (ug (2 ^ k) ds * 2 ^ p + d / 2 ^ (k - p)) + V % 2 = ug (2 ^ k) ds * 2 ^ (p + 1) + d / 2 ^ (k - (p + 1))) := by
                        show _ = _
                        rw [letter_bits d k p hpk, ← HZ.out, ← HXZ.out, HV.out, Nat.pow_succ]
                        rw [← Nat.mul_assoc, Nat.mul_add, Nat.mul_comm 2 (ug (2 ^ k) ds * 2 ^ p)]
                        omega
                      have HBS := HB5.out.2
                      obtain ⟨W2, HW2⟩ : ∃ W2, Hid (V % 2 = W2) := ⟨_, Lib.hid rfl⟩
                      rw [HW2.out] at hβ hX
                      have hWi : ((V : Int) % 2) = (W2 : Int) := by rw [← HW2.out]; simp
                      have HWI := Lib.hid hWi
                      have HX2 := Lib.hid hX.out
                      clear hWi
                      by_cases hc7 : c5 = 7
                      · have hcb : (((c5 : Int) + 1) == 8) = true := by rw [beq_iff_eq]; omega
                        have HBS7 : Hid (BitSt (ug (2 ^ k) ds * 2 ^ p + d / 2 ^ (k - p)) (k * i + p) w.heap.size w u9 h5 7 q5 wr) := by
                          rw [← hc7]; exact Lib.hid HBS
                        obtain ⟨E, HE⟩ : ∃ E, Hid (2 * h5 + W2 = E) := ⟨_, Lib.hid rfl⟩
                        have hEe : (2 * (h5 : Int) + (W2 : Int)) = (E : Int) := by rw [← HE.out]; simp
                        have hE : E < 256 := by have := HE.out; omega
                        have hEw : IntKind.u8.wrap (E : Int) = (E : Int) := by rw [IntKind.wrap_u8]; omega
                        have hql : q5 ≤ 200000 := by
                          have h1 := HBS.1
                          have h2 : k * i ≤ 6 * i := Nat.mul_le_mul_right _ hk6
                          omega
                        have hWi := HWI.out
                        have hws : w.heap.size ≤ wr.heap.size := HBS.2.2.2.2.2
                        have HWS := Lib.hid hws
                        clear hc7 HBS
                        go_wp2_with (at_builtin; refine wpList_append_own _ rfl (.tmp 73) (.tmp 76) 76 rfl w.heap.size 5 i0 (.int .u8 0) 1 1 Tryz.underlying76 hi0 hz0 hz1 hz2 rfl (by decide) _ _ _ rfl (HBS7.out.2.2.2.1.alloc _) ⟨wr.heap.size, 0, none⟩ 1 1 [.int .u8 (E : Int)] rfl rfl (World.news_of_block (cs := #[.int .u8 (E : Int)]) (t := 5) (fr := (0, 0)) (heap_alloc_new wr _)) (by simp [Value.oneCell']) (by unfold maxLen; omega) (by omega) (by simp; omega) ?_; intro v4 w4 hown4 hg4 hnil4)
                        have hEU : (((UInt8.ofNat (2 * h5 + W2)).toNat : Nat) : Int) = (E : Int) := by
                          rw [HE.out, UInt8.toNat_ofNat', Nat.mod_eq_of_lt hE]
                        have hby := HBS7.out.byte (β := W2) (v' := v4) (w3 := w4) hβ (Nat.le_refl _) hg4 (by rw [hEU]; exact hown4)
                        rw [HX2.out] at hby
                        have HBY := Lib.hid hby
                        clear hby hown4 hg4 hnil4 hEU
                        go_roundw
                        case rel =>
                          refine ⟨p + 1, 0, 0, q5 + 1, (zn : Int) - 1, hpk, rfl, rfl, rfl, by omega, by omega, ?_⟩
                          exact Lib.hid ⟨by have := HZ.out; omega, by rw [← Nat.add_assoc]; exact HBY.out⟩
                        case measure => simp [intOf]
                      · have hWi := HWI.out
                        have hcb : (((c5 : Int) + 1) == 8) = false := by rw [beq_eq_false_iff_ne]; omega
                        have hsm := HBS.small hβ (by omega)
                        rw [HX2.out] at hsm
                        have HS := Lib.hid hsm
                        clear hsm
                        go_wp2_with fail
                        go_roundw
                        case rel =>
                          refine ⟨p + 1, 2 * h5 + W2, c5 + 1, q5, (zn : Int) - 1, hpk, rfl, by go_num, by go_num, by omega, by omega, ?_⟩
                          exact Lib.hid ⟨by have := HZ.out; omega, by rw [← Nat.add_assoc]; exact HS.out⟩
                        case measure => simp [intOf]
                · have hzneg : z < 0 := by have := HB5.out.1; omega
                  have hpk2 : p = k := by omega
                  have HFIN : Hid (BitSt (ug (2 ^ k) (ds ++ [d])) (k * (i + 1)) w.heap.size w u9 h5 c5 q5 wr) := by
                    have h9 := HB5.out.2
                    rw [hpk2, Nat.sub_self, Nat.pow_zero, Nat.div_one] at h9
                    show BitSt _ _ _ _ _ _ _ _ _
                    rw [ug_snoc, Nat.mul_add, Nat.mul_one]
                    exact h9
                  clear hpk2
                  go_wp2_with fail
                  go_roundw
                  case rel => exact ⟨i + 1, h5, c5, q5, ds ++ [d], hlt, by go_num, rfl, rfl, Lib.hid ⟨hpre2.out.1, hpre2.out.2.1, hpre2.out.2.2, HFIN.out⟩⟩
                  case measure => simp [intOf]; omega
          · have him : i = m := by omega
            obtain ⟨a9, cp9, rfl⟩ := own_form HST.out.2.2.2.2.2.2.1
            have hds : preN L t.data.toList = ds := by
              rw [HST.out.2.2.1, him, rest_none L t m HT.out (by rw [← HL.out]; exact let_fill kind), List.append_nil]
            have hdec : decS L k t = ⟨(putL (ug (2 ^ k) ds / 2 ^ c) q).toArray⟩ := by
              unfold decS
              rw [hds]
              congr 2
              unfold decN
              rw [HST.out.1, HST.out.2.2.2.1]
              have h8 := HST.out.2.2.2.2.1
              have e1 : (8 * q + c) % 8 = c := by omega
              have e2 : (8 * q + c) / 8 = q := by omega
              rw [e1, e2]
            have hcv : ∀ mm, (convert 76 9 (.slice a9 q cp9)).run Tryz.prog (wr.drewN mm) = .ok (.string (decS L k t)) (wr.drewN mm) := fun mm => by
              rw [hdec]
              exact own_text (P := Tryz.prog) (w := wr.drewN mm) (base := w.heap.size) HST.out.2.2.2.2.2.2.1 76 9 Tryz.underlying76 Tryz.underlying5 Tryz.underlying9
            obtain ⟨D, HD⟩ : ∃ D, Hid (decS L k t = D) := ⟨_, Lib.hid rfl⟩
            obtain ⟨T2, HT2⟩ : ∃ T2, Hid (encS L k (filB kind) D = T2) := ⟨_, Lib.hid rfl⟩
            have hDs : D.size ≤ 10000 := by
              have h8 := decS_size L k (by omega) t
              rw [HD.out] at h8
              omega
            have cR : Hid (∀ W : World, Calls Tryz.prog 69 #[.int .i64 (kind : Int), .string D] W fun e w' => e = .returned (.string T2) ∧ w' = W) := fun W => by
              have h8 := refEncode_any kind D W hkd (by omega)
              rw [HL.out, HK.out, HT2.out] at h8
              exact h8.mono fun _ _ hh => ⟨hh.1, hh.2.symm⟩
            rw [HD.out] at hcv
            have HCV := Lib.hid hcv
            have HPL : Hid (kind = 0 → (preN L t.data.toList).length = t.size) := fun hk0 => by
              rw [hds, HST.out.1, him]
              refine Nat.le_antisymm hm (Nat.le_of_not_lt fun hlt2 => ?_)
              have := (HT.out m (Nat.le_refl _) hlt2).1
              omega
            clear hds hdec hcv him
            rcases (by
              by_cases h9 : T2 = t
              · exact .inl h9
              · exact .inr h9 : T2 = t ∨ T2 ≠ t) with h9 | h9
            case' inl =>
              have hbq : (T2.toList == t.toList) = true := by rw [h9]; simp
            case' inr =>
              have hbq : (T2.toList == t.toList) = false := by
                rw [beq_eq_false_iff_ne]
                intro e
                apply h9
                rw [ByteArray.toList_eq, ByteArray.toList_eq] at e
                exact ByteArray.ext (Array.ext' e)
            all_goals
              have H9 := Lib.hid h9
              clear h9
              go_wp2_with fail
              have hcv := HCV.out
              have hcv0 := HCV.out 0
              rw [World.drewN_zero] at hcv0
              go_quiet ((go_at_call 69; exact Calls.quiet_of_same (cR.out _)))
              go_wp2_with fail
              go_ret2
              refine ⟨?_, below_drawn HST.out.2.2.2.2.2.2.2.1 _⟩
              unfold DecPost
              refine ⟨D, _, rfl, ?_, ?_⟩
              · rw [HL.out, HK.out, HD.out, HT2.out]
                first
                  | exact Lib.hid ⟨(fun _ => ⟨rfl, H9.out⟩), (fun h => by cases h)⟩
                  | exact Lib.hid ⟨(fun h => by cases h), (fun _ => H9.out)⟩
              · rw [HL.out, HK.out, HD.out]
                exact Lib.hid (fun hk0 => by rw [if_pos (HPL.out hk0)])

theorem refDecode_any (kind : Nat) (t : ByteArray) (w : World) (hkd : kind ≤ 2) (hs : t.size ≤ 10000) :
    Calls Tryz.prog 38 #[.int .i64 kind, .string t] w fun e w' => (∃ (x : ByteArray) (ok : Bool), e = .returned (.tuple #[.string x, .bool ok]) ∧
      Hid ((ok = true → x = decS (letS kind) (bitK kind) t ∧ encS (letS kind) (bitK kind) (filB kind) (decS (letS kind) (bitK kind) t) = t) ∧ (ok = false → encS (letS kind) (bitK kind) (filB kind) (decS (letS kind) (bitK kind) t) ≠ t))) ∧ Below w.heap.size w w' := by
  exact (refDecode_det kind t w hkd hs).mono fun e w' ⟨hp, hb⟩ => by
    unfold DecPost at hp
    obtain ⟨x, ok, he, h1, _⟩ := hp
    exact ⟨⟨x, ok, he, h1⟩, hb⟩
end Go.Proofs.YtcecibopanfmgaaGreatDoor

namespace Go.Proofs.YtcecibopanfmgaaGreatDoor
open Go.RowKit
set_option linter.unusedVariables false

theorem cat_run {P : Program} (a b c : ByteArray) (h : a ++ b = c) (hs : c.size ≤ 1000) (W : World) : (Op.stringOp .add a b).run P W = .ok (.string c) W := by
  rw [← h]
  exact run_string_add_sum W a b (by rw [← ByteArray.size_append, h]; omega)

theorem neq45 (c : UInt8) (h : c ≠ 45) : ((c.toNat : Int) != 45) = true := by
  rw [bne_iff_ne]
  intro e
  exact h (UInt8.toNat_inj.1 (by show c.toNat = 45; omega))
theorem eq45 : (((45 : UInt8).toNat : Int) != 45) = false := by decide

set_option maxRecDepth 20000 in
set_option maxHeartbeats 4000000 in
/-- Of another size, or without its strokes. -/
theorem refParse_form (s : ByteArray) (h : s.size ≠ 36 ∨ (∃ hs : s.size = 36, ¬ (s[8] = 45 ∧ s[13] = 45 ∧ s[18] = 45 ∧ s[23] = 45))) (w : World) :
    Calls Tryz.prog 35 #[.string s] w fun e w' => e = .returned (.tuple #[.agg z16.toArray, .bool false]) ∧ Below w.heap.size w w' := by
  have hz := (zero_of_info u16_info).1
  have hr7 := Row.new w 45 z16
  have hb7 : Below w.heap.size w (w.alloc (.cells z16.toArray 45)) := (Below.refl w.heap.size w).alloc (Nat.le_refl _) (.cells z16.toArray 45)
  have H := Lib.hid (And.intro hr7 hb7)
  have hp := hr7.put z16
  have hq := below_setRow (B := w.heap.size) hb7 (Nat.le_refl _) z16.toArray
  have HQ := Lib.hid (And.intro hp hq)
  clear hr7 hb7 hp hq
  rcases h with h | ⟨hs, h⟩
  · have hrI : ((s.size : Int) != 36) = true := by rw [bne_iff_ne]; omega
    clear h
    go_enter Tryz.func35, Tryz.ntmps35
    go_wp2_with (refine wpList_store_row rfl 45 (.tmp 2) (.tmp 29) rfl w.heap.size z16.toArray rfl rfl 45 z16.toArray H.out.1 u16_size rfl z16_one ?_)
    exact bodyPost_ret (v := .tuple #[.agg z16.toArray, .bool false]) (results_row_tmp rfl _ _ w.heap.size 45 z16.toArray (0, 0) _ rfl HQ.out.1 Tryz.underlying45 rfl u16_size _ rfl) rfl ⟨rfl, HQ.out.2⟩
  · have hrI : ((s.size : Int) != 36) = false := by rw [hs]; rfl
    have i8 : 8 < s.size := by omega
    have i13 : 13 < s.size := by omega
    have i18 : 18 < s.size := by omega
    have i23 : 23 < s.size := by omega
    obtain ⟨c8, e8⟩ : ∃ c, s[8] = c := ⟨_, rfl⟩
    obtain ⟨c13, e13⟩ : ∃ c, s[13] = c := ⟨_, rfl⟩
    obtain ⟨c18, e18⟩ : ∃ c, s[18] = c := ⟨_, rfl⟩
    obtain ⟨c23, e23⟩ : ∃ c, s[23] = c := ⟨_, rfl⟩
    rw [e8, e13, e18, e23] at h
    have hc : c8 ≠ 45 ∨ (c8 = 45 ∧ c13 ≠ 45) ∨ (c8 = 45 ∧ c13 = 45 ∧ c18 ≠ 45) ∨ (c8 = 45 ∧ c13 = 45 ∧ c18 = 45 ∧ c23 ≠ 45) := by
      by_cases h8 : c8 = 45
      · by_cases h13 : c13 = 45
        · by_cases h18 : c18 = 45
          · exact .inr (.inr (.inr ⟨h8, h13, h18, fun h23 => h ⟨h8, h13, h18, h23⟩⟩))
          · exact .inr (.inr (.inl ⟨h8, h13, h18⟩))
        · exact .inr (.inl ⟨h8, h13⟩)
      · exact .inl h8
    clear h hs
    rcases hc with h | ⟨rfl, h⟩ | ⟨rfl, rfl, h⟩ | ⟨rfl, rfl, rfl, h⟩
    all_goals
      have hn := neq45 _ h
      have h45 := eq45
      clear h
      go_enter Tryz.func35, Tryz.ntmps35
      go_wp2_with (refine wpList_store_row rfl 45 (.tmp 2) (.tmp 29) rfl w.heap.size z16.toArray rfl rfl 45 z16.toArray H.out.1 u16_size rfl z16_one ?_)
      exact bodyPost_ret (v := .tuple #[.agg z16.toArray, .bool false]) (results_row_tmp rfl _ _ w.heap.size 45 z16.toArray (0, 0) _ rfl HQ.out.1 Tryz.underlying45 rfl u16_size _ rfl) rfl ⟨rfl, HQ.out.2⟩

set_option maxRecDepth 20000 in
set_option maxHeartbeats 4000000 in
/-- Of that form: as its letters are read. -/
theorem refParse_mid (s t x : ByteArray) (ok : Bool) (hs : s.size = 36) (h8 : s[8] = 45) (h13 : s[13] = 45) (h18 : s[18] = 45) (h23 : s[23] = 45) (ht : cutId s.data.toList = t.data.toList)
    (hD : ∀ W : World, Calls Tryz.prog 38 #[.int .i64 0, .string t] W fun e w' => e = .returned (.tuple #[.string x, .bool ok]) ∧ Below W.heap.size W w') (R : Array Value) (hx : (ok = true → x.size = 16 ∧ (x.data.toList.map bv).toArray = R) ∧ (ok = false → z16.toArray = R)) (w : World) :
    Calls Tryz.prog 35 #[.string s] w fun e w' => e = .returned (.tuple #[.agg R, .bool ok]) ∧ Below w.heap.size w w' := by
  have hz := (zero_of_info u16_info).1
  have hr7 := Row.new w 45 z16
  have hb7 : Below w.heap.size w (w.alloc (.cells z16.toArray 45)) := (Below.refl w.heap.size w).alloc (Nat.le_refl _) (.cells z16.toArray 45)
  have hrI : ((s.size : Int) != 36) = false := by rw [hs]; rfl
  have i8 : 8 < s.size := by omega
  have i13 : 13 < s.size := by omega
  have i18 : 18 < s.size := by omega
  have i23 : 23 < s.size := by omega
  have h45 := eq45
  obtain ⟨a0, ea0⟩ : ∃ a, s.extract 0 8 = a := ⟨_, rfl⟩
  obtain ⟨a1, ea1⟩ : ∃ a, s.extract 9 13 = a := ⟨_, rfl⟩
  obtain ⟨a2, ea2⟩ : ∃ a, s.extract 14 18 = a := ⟨_, rfl⟩
  obtain ⟨a3, ea3⟩ : ∃ a, s.extract 19 23 = a := ⟨_, rfl⟩
  obtain ⟨a4, ea4⟩ : ∃ a, s.extract 24 s.size = a := ⟨_, rfl⟩
  have s0 : a0.size = 8 := by rw [← ea0, ByteArray.size_extract, hs]; rfl
  have s1 : a1.size = 4 := by rw [← ea1, ByteArray.size_extract, hs]; rfl
  have s2 : a2.size = 4 := by rw [← ea2, ByteArray.size_extract, hs]; rfl
  have s3 : a3.size = 4 := by rw [← ea3, ByteArray.size_extract, hs]; rfl
  have s4 : a4.size = 12 := by rw [← ea4, ByteArray.size_extract, hs]; rfl
  obtain ⟨b1, eb1⟩ : ∃ b, a0 ++ a1 = b := ⟨_, rfl⟩
  obtain ⟨b2, eb2⟩ : ∃ b, b1 ++ a2 = b := ⟨_, rfl⟩
  obtain ⟨b3, eb3⟩ : ∃ b, b2 ++ a3 = b := ⟨_, rfl⟩
  have z1 : b1.size = 12 := by rw [← eb1, ByteArray.size_append, s0, s1]
  have z2 : b2.size = 16 := by rw [← eb2, ByteArray.size_append, z1, s2]
  have z3 : b3.size = 20 := by rw [← eb3, ByteArray.size_append, z2, s3]
  have eb4 : b3 ++ a4 = t := by
    rw [bytes_of_list (r := b3 ++ a4) (l := t.data.toList)]
    rw [← ht, ← eb3, ← eb2, ← eb1, ← ea0, ← ea1, ← ea2, ← ea3, ← ea4, hs]
    simp only [ByteArray.data_append, Array.toList_append, Lib.extract_data]
    unfold cutId
    simp
    exact List.take_of_length_le (by rw [List.length_drop]; have : s.data.toList.length = s.size := by simp
                                     omega)
  have z4 : t.size = 32 := by rw [← eb4, ByteArray.size_append, z3, s4]
  have r1 := fun W => cat_run (P := Tryz.prog) a0 a1 b1 eb1 (by omega) W
  have r2 := fun W => cat_run (P := Tryz.prog) b1 a2 b2 eb2 (by omega) W
  have r3 := fun W => cat_run (P := Tryz.prog) b2 a3 b3 eb3 (by omega) W
  have r4 := fun W => cat_run (P := Tryz.prog) b3 a4 t eb4 (by omega) W
  have HD := Lib.hid hD
  have H0 := Lib.hid (And.intro hr7 hb7)
  have HX := Lib.hid hx
  have hsI : (36 : Int) ≤ (s.size : Int) := by omega
  have HS := Lib.hid hs
  have k8 : s[8]'i8 = 45 := h8
  have k13 : s[13]'i13 = 45 := h13
  have k18 : s[18]'i18 = 45 := h18
  have k23 : s[23]'i23 = 45 := h23
  clear h8 h13 h18 h23
  clear hD hr7 hb7 hx hs s0 s1 s2 s3 s4 z1 z2 z3 z4 eb1 eb2 eb3 eb4 ht
  go_enter Tryz.func35, Tryz.ntmps35
  go_wp2_with fail
  obtain ⟨q0, b0⟩ := H0.out
  generalize w.alloc (.cells z16.toArray 45) = w0 at q0 b0 ⊢
  refine region_quiet_lit (Below w0.heap.size w0) (by kernel_rfl) (by kernel_rfl) (below_drewN (Below.refl _ _) 1) ?_
  repeat (go_big_quiet_step ((first
    | (intro hC; with_reducible rfl)
    | (intro hC; go_at_call 38; refine (HD.out _).mono ?_; rintro e w'' ⟨rfl, hb⟩; exact ⟨rfl, hC.trans (hb.mono hC.size)⟩))))
  refine wpQuiet_nil ?_
  intro w1 hw1
  have q1 := q0.below hw1 q0.lt
  have b1' := b0.trans (hw1.mono b0.size)
  clear q0 b0 hw1 r1 r2 r3 r4 ea0 ea1 ea2 ea3 ea4 H0
  cases ok with
  | false =>
    have HZR := Lib.hid (HX.out.2 rfl)
    clear HX
    go_wp2_with (refine wpList_store_row rfl 45 (.tmp 2) (.tmp 50) rfl w.heap.size z16.toArray rfl rfl 45 z16.toArray q1 u16_size rfl z16_one ?_)
    have hp := q1.put z16
    have hq := below_setRow (B := w.heap.size) b1' (Nat.le_refl _) z16.toArray
    exact bodyPost_ret (v := .tuple #[.agg z16.toArray, .bool false]) (results_row_tmp rfl _ _ w.heap.size 45 z16.toArray (0, 0) _ rfl hp Tryz.underlying45 rfl u16_size _ rfl) rfl ⟨by rw [HZR.out], hq⟩
  | true =>
    have hO := fun W => of_any x (HX.out.1 rfl).1 W
    have hone := one_bytes x.data.toList
    have hl : x.data.toList.length = 16 := by rw [← (HX.out.1 rfl).1]; simp
    obtain ⟨C, hC⟩ : ∃ C, x.data.toList.map bv = C := ⟨_, rfl⟩
    have hCl : C.length = 16 := by rw [← hC, List.length_map, hl]
    rw [hC] at hO hone
    have hCR : C.toArray = R := by rw [← hC]; exact (HX.out.1 rfl).2
    have HO := Lib.hid hO
    have HN := Lib.hid (And.intro hone hCl)
    have HCR := Lib.hid hCR
    clear hO hone hl hC hCl hCR HX
    go_wp2_with fail
    refine (HO.out _).mono ?_
    rintro e w2 ⟨rfl, hb2⟩
    have q2 := q1.below hb2 q1.lt
    have b2' := b1'.trans (hb2.mono b1'.size)
    clear q1 b1' hb2
    go_wp2_with (refine wpList_store_row rfl 45 (.tmp 2) (.tmp 52) rfl w.heap.size C.toArray rfl rfl 45 z16.toArray q2 (by rw [u16_size, List.size_toArray, HN.out.2]) (by rw [List.size_toArray, List.size_toArray, HN.out.2]; rfl) HN.out.1 ?_)
    have hp := q2.put C
    have hq := below_setRow (B := w.heap.size) b2' (Nat.le_refl _) C.toArray
    exact bodyPost_ret (v := .tuple #[.agg C.toArray, .bool true]) (results_row_tmp rfl _ _ w.heap.size 45 C.toArray (0, 0) _ rfl hp Tryz.underlying45 rfl (by rw [u16_size, List.size_toArray, HN.out.2]) _ rfl) rfl ⟨by rw [HCR.out], hq⟩

end Go.Proofs.YtcecibopanfmgaaGreatDoor

namespace Go.Proofs.YtcecibopanfmgaaGreatDoor
open Go.RowKit
set_option linter.unusedVariables false

/-- The document's reading of an id's text. -/
theorem refParse_ok (s : ByteArray) (l : List UInt8) (h : IsId s.data.toList l) (w : World) :
    Calls Tryz.prog 35 #[.string s] w fun e w' => e = .returned (.tuple #[.agg (l.map bv).toArray, .bool true]) ∧ Below w.heap.size w w' := by
  have hsl : s.data.toList.length = s.size := by simp
  have hs : s.size = 36 := by rw [← hsl, ← h.2, idL_length l h.1]
  obtain ⟨g8, g13, g18, g23⟩ := id_strokes l h.1
  rw [h.2] at g8 g13 g18 g23
  have hg : ∀ k (hk : k < s.size), s.data.toList[k]? = some 45 → s[k] = 45 := fun k hk e => by
    rw [Array.getElem?_toList, Array.getElem?_eq_getElem hk] at e
    exact Option.some.inj e
  have hHl : (hexL l).length = 32 := by rw [hexL_length, h.1]
  have henc : encS (letS 0) (bitK 0) (filB 0) (decS (letS 0) (bitK 0) ⟨(hexL l).toArray⟩) = ⟨(hexL l).toArray⟩ := by
    show encS hexS 4 false (decS hexS 4 ⟨(hexL l).toArray⟩) = _
    rw [dec_hex, encS_hex]
  refine refParse_mid s ⟨(hexL l).toArray⟩ ⟨l.toArray⟩ true hs (hg 8 (by omega) g8) (hg 13 (by omega) g13) (hg 18 (by omega) g18) (hg 23 (by omega) g23) (by rw [← h.2, cut_id l h.1]) (fun W => ?_) _ ⟨fun _ => ⟨by show l.toArray.size = 16; rw [List.size_toArray, h.1], rfl⟩, fun h => by cases h⟩ w
  refine (refDecode_any 0 ⟨(hexL l).toArray⟩ W (by omega) (by show (hexL l).toArray.size ≤ _; rw [List.size_toArray, hHl]; omega)).mono ?_
  rintro e w' ⟨⟨x, ok, rfl, hx⟩, hb⟩
  refine ⟨?_, hb⟩
  cases ok with
  | false => exact absurd henc (hx.out.2 rfl)
  | true =>
    have h1 : x = decS hexS 4 ⟨(hexL l).toArray⟩ := (hx.out.1 rfl).1
    rw [h1, dec_hex]
/-- The document's reading of any other text. -/
theorem refParse_bad (s : ByteArray) (h : ∀ l, ¬ IsId s.data.toList l) (w : World) :
    Calls Tryz.prog 35 #[.string s] w fun e w' => e = .returned (.tuple #[.agg z16.toArray, .bool false]) ∧ Below w.heap.size w w' := by
  by_cases hf : s.size ≠ 36 ∨ (∃ hs : s.size = 36, ¬ (s[8] = 45 ∧ s[13] = 45 ∧ s[18] = 45 ∧ s[23] = 45))
  · exact refParse_form s hf w
  · have hs : s.size = 36 := Decidable.byContradiction fun hn => hf (.inl hn)
    have hd : s[8] = 45 ∧ s[13] = 45 ∧ s[18] = 45 ∧ s[23] = 45 := Decidable.byContradiction fun hn => hf (.inr ⟨hs, hn⟩)
    have hsl : s.data.toList.length = 36 := by rw [← hs]; simp
    have hg : ∀ k (hk : k < s.size), s[k] = 45 → s.data.toList[k]? = some 45 := fun k hk e => by
      rw [Array.getElem?_toList, Array.getElem?_eq_getElem hk]
      exact congrArg some e
    have hcl : (cutId s.data.toList).length = 32 := by unfold cutId; simp only [List.length_append, List.length_take, List.length_drop, hsl]; omega
    refine refParse_mid s ⟨(cutId s.data.toList).toArray⟩ (if (preN (letS 0) (ByteArray.mk (cutId s.data.toList).toArray).data.toList).length = (ByteArray.mk (cutId s.data.toList).toArray).size then decS (letS 0) (bitK 0) ⟨(cutId s.data.toList).toArray⟩ else ⟨#[]⟩) false hs hd.1 hd.2.1 hd.2.2.1 hd.2.2.2 rfl (fun W => ?_) _ ⟨(fun h => by cases h), fun _ => rfl⟩ w
    refine (refDecode_det 0 ⟨(cutId s.data.toList).toArray⟩ W (by omega) (by show (cutId s.data.toList).toArray.size ≤ _; rw [List.size_toArray, hcl]; omega)).mono ?_
    rintro e w' ⟨hp, hb⟩
    unfold DecPost at hp
    obtain ⟨x, ok, rfl, hx, hdt⟩ := hp
    refine ⟨?_, hb⟩
    cases ok with
    | false => rw [hdt.out rfl]
    | true =>
      exfalso
      have h1 : encS hexS 4 false (decS hexS 4 ⟨(cutId s.data.toList).toArray⟩) = ⟨(cutId s.data.toList).toArray⟩ := (hx.out.1 rfl).2
      rw [encS_hex] at h1
      have h2 : hexL (decS hexS 4 ⟨(cutId s.data.toList).toArray⟩).data.toList = cutId s.data.toList := by
        have := congrArg (fun b : ByteArray => b.data.toList) h1
        exact this
      exact h _ (isId_of_cut _ _ hsl (hg 8 (by omega) hd.1) (hg 13 (by omega) hd.2.1) (hg 18 (by omega) hd.2.2.1) (hg 23 (by omega) hd.2.2.2) h2.symm)
end Go.Proofs.YtcecibopanfmgaaGreatDoor

namespace Go.Proofs.YtcecibopanfmgaaGreatDoor
open Go.RowKit
set_option linter.unusedVariables false

set_option maxRecDepth 20000 in
set_option maxHeartbeats 2000000 in
theorem refFits_1 (a b : Int) (l : List ByteArray) (hc : FR.check ⟨1, a, b, l⟩ = 0) (a0 : Option Addr) (n cap : Nat) (hn : l.length = n) (s : ByteArray) (hs : s.size ≤ 1000) (w : World) :
    Calls Tryz.prog 11 #[.agg #[.int .i64 1, .int .i64 a, .int .i64 b, .slice a0 n cap], .string s] w fun e w' => e = .returned (.bool (winB a b s.size && figB s)) ∧ Below w.heap.size w w' := by
  have HC : Hid (∀ W : World, Calls Tryz.prog 13 #[.agg #[.int .i64 1, .int .i64 a, .int .i64 b, .slice a0 n cap]] W fun e w' => e = .returned (.int .i64 0) ∧ Below W.heap.size W w') := Lib.hid fun W => by
    have h := refCheck_any ⟨1, a, b, l⟩ a0 n cap hn W
    rw [hc] at h
    exact h
  clear hc
  clear hn
  have HN : Hid (∀ W : World, Calls Tryz.prog 33 #[.string s] W fun e w' => e = .returned (.bool (isD s)) ∧ W = w') := Lib.hid fun W => refIs_any s W (by omega)
  by_cases h1 : a ≤ (s.size : Int)
  · by_cases h2 : (s.size : Int) ≤ b
    · have hw : winB a b s.size = true := by unfold winB; rw [decide_eq_true h1, decide_eq_true h2]; rfl
      rw [hw]
      clear hw
      by_cases h0 : s.size = 0
      · have hf : figB s = true := by unfold figB; rw [decide_eq_true h0]; rfl
        rw [hf]
        have hz : ((s.size : Int) == 0) = true := by rw [beq_iff_eq]; omega
        clear hf h0
        go_enter Tryz.func11, Tryz.ntmps11
        go_wp2_with fail
        refine (HC.out _).mono ?_
        rintro e w1 ⟨rfl, hb1⟩
        obtain ⟨hr1, hB1⟩ := rule_after hb1
        obtain ⟨c0, c1, c2, c3⟩ := rule_cells hr1
        have HR := Lib.hid hr1
        have HB := Lib.hid hB1
        have HB0 := Lib.hid hb1
        clear hb1 hr1 hB1
        go_wp2_with fail
        go_ret
        exact ⟨rfl, HB.out⟩
      · have hz : ((s.size : Int) == 0) = false := by rw [beq_eq_false_iff_ne]; omega
        have hf : figB s = isD s := by unfold figB; rw [decide_eq_false h0]; rfl
        rw [hf]
        clear hf
        obtain ⟨D, hD⟩ : ∃ D, isD s = D := ⟨_, rfl⟩
        rw [hD] at HN ⊢
        clear hD
        cases D with
        | false =>
          go_enter Tryz.func11, Tryz.ntmps11
          go_wp2_with fail
          refine (HC.out _).mono ?_
          rintro e w1 ⟨rfl, hb1⟩
          obtain ⟨hr1, hB1⟩ := rule_after hb1
          obtain ⟨c0, c1, c2, c3⟩ := rule_cells hr1
          have HR := Lib.hid hr1
          have HB := Lib.hid hB1
          have HB0 := Lib.hid hb1
          clear hb1 hr1 hB1
          go_wp2_with fail
          refine (HN.out _).mono ?_
          rintro e w2 ⟨rfl, rfl⟩
          go_wp2_with fail
          go_ret
          exact ⟨rfl, HB.out⟩
        | true =>
          go_enter Tryz.func11, Tryz.ntmps11
          go_wp2_with fail
          refine (HC.out _).mono ?_
          rintro e w1 ⟨rfl, hb1⟩
          obtain ⟨hr1, hB1⟩ := rule_after hb1
          obtain ⟨c0, c1, c2, c3⟩ := rule_cells hr1
          have HR := Lib.hid hr1
          have HB := Lib.hid hB1
          have HB0 := Lib.hid hb1
          clear hb1 hr1 hB1
          go_wp2_with fail
          refine (HN.out _).mono ?_
          rintro e w2 ⟨rfl, rfl⟩
          go_wp2_with fail
          go_ret
          exact ⟨rfl, HB.out⟩
    · have hw : winB a b s.size = false := by unfold winB; rw [decide_eq_false h2, Bool.and_false]
      rw [hw]
      clear hw
      go_enter Tryz.func11, Tryz.ntmps11
      go_wp2_with fail
      refine (HC.out _).mono ?_
      rintro e w1 ⟨rfl, hb1⟩
      obtain ⟨hr1, hB1⟩ := rule_after hb1
      obtain ⟨c0, c1, c2, c3⟩ := rule_cells hr1
      have HR := Lib.hid hr1
      have HB := Lib.hid hB1
      have HB0 := Lib.hid hb1
      clear hb1 hr1 hB1
      go_wp2_with fail
      go_ret
      exact ⟨rfl, HB.out⟩
  · have hw : winB a b s.size = false := by unfold winB; rw [decide_eq_false h1]; rfl
    rw [hw]
    clear hw
    go_enter Tryz.func11, Tryz.ntmps11
    go_wp2_with fail
    refine (HC.out _).mono ?_
    rintro e w1 ⟨rfl, hb1⟩
    obtain ⟨hr1, hB1⟩ := rule_after hb1
    obtain ⟨c0, c1, c2, c3⟩ := rule_cells hr1
    have HR := Lib.hid hr1
    have HB := Lib.hid hB1
    have HB0 := Lib.hid hb1
    clear hb1 hr1 hB1
    go_wp2_with fail
    go_ret
    exact ⟨rfl, HB.out⟩

set_option maxRecDepth 20000 in
set_option maxHeartbeats 2000000 in
theorem refFits_8 (a b : Int) (l : List ByteArray) (hc : FR.check ⟨8, a, b, l⟩ = 0) (a0 : Option Addr) (n cap : Nat) (hn : l.length = n) (s : ByteArray) (hs : s.size ≤ 1000) (w : World) :
    Calls Tryz.prog 11 #[.agg #[.int .i64 8, .int .i64 a, .int .i64 b, .slice a0 n cap], .string s] w fun e w' => e = .returned (.bool (winB a b s.size && figB s && leadB s)) ∧ Below w.heap.size w w' := by
  have HC : Hid (∀ W : World, Calls Tryz.prog 13 #[.agg #[.int .i64 8, .int .i64 a, .int .i64 b, .slice a0 n cap]] W fun e w' => e = .returned (.int .i64 0) ∧ Below W.heap.size W w') := Lib.hid fun W => by
    have h := refCheck_any ⟨8, a, b, l⟩ a0 n cap hn W
    rw [hc] at h
    exact h
  clear hc
  clear hn
  have HN : Hid (∀ W : World, Calls Tryz.prog 33 #[.string s] W fun e w' => e = .returned (.bool (isD s)) ∧ W = w') := Lib.hid fun W => refIs_any s W (by omega)
  by_cases h1 : a ≤ (s.size : Int)
  · by_cases h2 : (s.size : Int) ≤ b
    · have hw : winB a b s.size = true := by unfold winB; rw [decide_eq_true h1, decide_eq_true h2]; rfl
      rw [hw]
      clear hw
      by_cases h0 : s.size = 0
      · have hf : figB s = true := by unfold figB; rw [decide_eq_true h0]; rfl
        rw [hf]
        have hl : leadB s = true := by unfold leadB; rw [decide_eq_true (by omega : s.size < 2)]; rfl
        rw [hl]
        clear hl
        have hz : ((s.size : Int) == 0) = true := by rw [beq_iff_eq]; omega
        clear hf h0
        go_enter Tryz.func11, Tryz.ntmps11
        go_wp2_with fail
        refine (HC.out _).mono ?_
        rintro e w1 ⟨rfl, hb1⟩
        obtain ⟨hr1, hB1⟩ := rule_after hb1
        obtain ⟨c0, c1, c2, c3⟩ := rule_cells hr1
        have HR := Lib.hid hr1
        have HB := Lib.hid hB1
        have HB0 := Lib.hid hb1
        clear hb1 hr1 hB1
        go_wp2_with fail
        go_ret
        exact ⟨rfl, HB.out⟩
      · have hz : ((s.size : Int) == 0) = false := by rw [beq_eq_false_iff_ne]; omega
        have hf : figB s = isD s := by unfold figB; rw [decide_eq_false h0]; rfl
        rw [hf]
        clear hf
        obtain ⟨D, hD⟩ : ∃ D, isD s = D := ⟨_, rfl⟩
        rw [hD] at HN ⊢
        clear hD
        cases D with
        | false =>
          go_enter Tryz.func11, Tryz.ntmps11
          go_wp2_with fail
          refine (HC.out _).mono ?_
          rintro e w1 ⟨rfl, hb1⟩
          obtain ⟨hr1, hB1⟩ := rule_after hb1
          obtain ⟨c0, c1, c2, c3⟩ := rule_cells hr1
          have HR := Lib.hid hr1
          have HB := Lib.hid hB1
          have HB0 := Lib.hid hb1
          clear hb1 hr1 hB1
          go_wp2_with fail
          refine (HN.out _).mono ?_
          rintro e w2 ⟨rfl, rfl⟩
          go_wp2_with fail
          go_ret
          exact ⟨rfl, HB.out⟩
        | true =>
          by_cases h3 : s.size < 2
          · have hl : leadB s = true := by unfold leadB; rw [decide_eq_true h3]; rfl
            rw [hl]
            clear hl
            have h3' : (s.size : Int) ≤ 1 := by omega
            go_enter Tryz.func11, Tryz.ntmps11
            go_wp2_with fail
            refine (HC.out _).mono ?_
            rintro e w1 ⟨rfl, hb1⟩
            obtain ⟨hr1, hB1⟩ := rule_after hb1
            obtain ⟨c0, c1, c2, c3⟩ := rule_cells hr1
            have HR := Lib.hid hr1
            have HB := Lib.hid hB1
            have HB0 := Lib.hid hb1
            clear hb1 hr1 hB1
            go_wp2_with fail
            refine (HN.out _).mono ?_
            rintro e w2 ⟨rfl, rfl⟩
            go_wp2_with fail
            go_ret
            exact ⟨rfl, HB.out⟩
          · have h3' : (1 : Int) < (s.size : Int) := by omega
            have hp : 0 < s.size := by omega
            have HL : Hid (leadB s = decide (s[0] ≠ 48)) := Lib.hid (by unfold leadB; rw [decide_eq_false h3, get_d hp]; rfl)
            rw [HL.out]
            go_enter Tryz.func11, Tryz.ntmps11
            go_wp2_with fail
            refine (HC.out _).mono ?_
            rintro e w1 ⟨rfl, hb1⟩
            obtain ⟨hr1, hB1⟩ := rule_after hb1
            obtain ⟨c0, c1, c2, c3⟩ := rule_cells hr1
            have HR := Lib.hid hr1
            have HB := Lib.hid hB1
            have HB0 := Lib.hid hb1
            clear hb1 hr1 hB1
            go_wp2_with fail
            refine (HN.out _).mono ?_
            rintro e w2 ⟨rfl, rfl⟩
            go_wp2_with fail
            go_ret
            exact ⟨ret_boolE (by rw [Bool.eq_iff_iff]; simp [← UInt8.toNat_inj]; omega), HB.out⟩
    · have hw : winB a b s.size = false := by unfold winB; rw [decide_eq_false h2, Bool.and_false]
      rw [hw]
      clear hw
      go_enter Tryz.func11, Tryz.ntmps11
      go_wp2_with fail
      refine (HC.out _).mono ?_
      rintro e w1 ⟨rfl, hb1⟩
      obtain ⟨hr1, hB1⟩ := rule_after hb1
      obtain ⟨c0, c1, c2, c3⟩ := rule_cells hr1
      have HR := Lib.hid hr1
      have HB := Lib.hid hB1
      have HB0 := Lib.hid hb1
      clear hb1 hr1 hB1
      go_wp2_with fail
      go_ret
      exact ⟨rfl, HB.out⟩
  · have hw : winB a b s.size = false := by unfold winB; rw [decide_eq_false h1]; rfl
    rw [hw]
    clear hw
    go_enter Tryz.func11, Tryz.ntmps11
    go_wp2_with fail
    refine (HC.out _).mono ?_
    rintro e w1 ⟨rfl, hb1⟩
    obtain ⟨hr1, hB1⟩ := rule_after hb1
    obtain ⟨c0, c1, c2, c3⟩ := rule_cells hr1
    have HR := Lib.hid hr1
    have HB := Lib.hid hB1
    have HB0 := Lib.hid hb1
    clear hb1 hr1 hB1
    go_wp2_with fail
    go_ret
    exact ⟨rfl, HB.out⟩

set_option maxRecDepth 20000 in
set_option maxHeartbeats 2000000 in
theorem refFits_5 (a b : Int) (l : List ByteArray) (hc : FR.check ⟨5, a, b, l⟩ = 0) (a0 : Option Addr) (n cap : Nat) (hn : l.length = n) (s : ByteArray) (hs : s.size ≤ 1000) (w : World) :
    Calls Tryz.prog 11 #[.agg #[.int .i64 5, .int .i64 a, .int .i64 b, .slice a0 n cap], .string s] w fun e w' => e = .returned (.bool (decide (cardN s = 0))) ∧ Below w.heap.size w w' := by
  have HC : Hid (∀ W : World, Calls Tryz.prog 13 #[.agg #[.int .i64 5, .int .i64 a, .int .i64 b, .slice a0 n cap]] W fun e w' => e = .returned (.int .i64 0) ∧ Below W.heap.size W w') := Lib.hid fun W => by
    have h := refCheck_any ⟨5, a, b, l⟩ a0 n cap hn W
    rw [hc] at h
    exact h
  clear hc
  obtain ⟨C, HCd⟩ : ∃ C, Hid (cardN s = C) := ⟨_, Lib.hid rfl⟩
  have HX : Hid (∀ W : World, Calls Tryz.prog 36 #[.string s] W fun e w' => e = .returned (.int .i64 C) ∧ W = w') := Lib.hid fun W => by rw [← HCd.out]; exact refCard_any s W hs
  rw [HCd.out]
  clear hn
  go_enter Tryz.func11, Tryz.ntmps11
  go_wp2_with fail
  refine (HC.out _).mono ?_
  rintro e w1 ⟨rfl, hb1⟩
  obtain ⟨hr1, hB1⟩ := rule_after hb1
  obtain ⟨c0, c1, c2, c3⟩ := rule_cells hr1
  have HR := Lib.hid hr1
  have HB := Lib.hid hB1
  have HB0 := Lib.hid hb1
  clear hb1 hr1 hB1
  go_wp2_with fail
  refine (HX.out _).mono ?_
  rintro e w2 ⟨rfl, rfl⟩
  go_wp2_with fail
  go_ret
  exact ⟨ret_boolE (by rw [Bool.eq_iff_iff]; simp), HB.out⟩

set_option maxRecDepth 20000 in
set_option maxHeartbeats 2000000 in
theorem refFits_6 (a b : Int) (l : List ByteArray) (hc : FR.check ⟨6, a, b, l⟩ = 0) (a0 : Option Addr) (n cap : Nat) (hn : l.length = n) (s : ByteArray) (hs : s.size ≤ 1000) (w : World) :
    Calls Tryz.prog 11 #[.agg #[.int .i64 6, .int .i64 a, .int .i64 b, .slice a0 n cap], .string s] w fun e w' => e = .returned (.bool (decide (dateN s = 0))) ∧ Below w.heap.size w w' := by
  have HC : Hid (∀ W : World, Calls Tryz.prog 13 #[.agg #[.int .i64 6, .int .i64 a, .int .i64 b, .slice a0 n cap]] W fun e w' => e = .returned (.int .i64 0) ∧ Below W.heap.size W w') := Lib.hid fun W => by
    have h := refCheck_any ⟨6, a, b, l⟩ a0 n cap hn W
    rw [hc] at h
    exact h
  clear hc
  obtain ⟨C, HCd⟩ : ∃ C, Hid (dateN s = C) := ⟨_, Lib.hid rfl⟩
  have HX : Hid (∀ W : World, Calls Tryz.prog 37 #[.string s] W fun e w' => e = .returned (.int .i64 C) ∧ Below W.heap.size W w') := Lib.hid fun W => by rw [← HCd.out]; exact refDate_any s W hs
  rw [HCd.out]
  clear hn
  go_enter Tryz.func11, Tryz.ntmps11
  go_wp2_with fail
  refine (HC.out _).mono ?_
  rintro e w1 ⟨rfl, hb1⟩
  obtain ⟨hr1, hB1⟩ := rule_after hb1
  obtain ⟨c0, c1, c2, c3⟩ := rule_cells hr1
  have HR := Lib.hid hr1
  have HB := Lib.hid hB1
  have HB0 := Lib.hid hb1
  clear hb1 hr1 hB1
  go_wp2_with fail
  refine (HX.out _).mono ?_
  rintro e w2 ⟨rfl, hb2⟩
  go_wp2_with fail
  go_ret
  exact ⟨ret_boolE (by rw [Bool.eq_iff_iff]; simp), HB.out.trans (hb2.mono HB.out.size)⟩

def DecRes (a : Int) (s : ByteArray) (e : Ending) : Prop := ∃ (x : ByteArray) (ok : Bool), e = .returned (.tuple #[.string x, .bool ok]) ∧ Hid ((ok = true → proofB a s = decide ((x.size : Int) = a)) ∧ (ok = false → proofB a s = false))
theorem decRes {a : Int} {s x : ByteArray} {ok : Bool} (hx : Hid ((ok = true → x = decS (letS 1) (bitK 1) s ∧ encS (letS 1) (bitK 1) (filB 1) (decS (letS 1) (bitK 1) s) = s) ∧ (ok = false → encS (letS 1) (bitK 1) (filB 1) (decS (letS 1) (bitK 1) s) ≠ s))) :
    Hid ((ok = true → proofB a s = decide ((x.size : Int) = a)) ∧ (ok = false → proofB a s = false)) := Lib.hid ⟨fun h => by
    obtain ⟨h1, h2⟩ := hx.out.1 h
    have h1 : x = decS stdS 6 s := h1
    have h2 : encS stdS 6 true (decS stdS 6 s) = s := h2
    unfold proofB
    rw [decide_eq_true h2, Bool.true_and, h1], fun h => by
    have h2 : encS stdS 6 true (decS stdS 6 s) ≠ s := hx.out.2 h
    unfold proofB
    rw [decide_eq_false h2, Bool.false_and]⟩

set_option maxRecDepth 20000 in
set_option maxHeartbeats 2000000 in
theorem refFits_7 (a b : Int) (l : List ByteArray) (hc : FR.check ⟨7, a, b, l⟩ = 0) (a0 : Option Addr) (n cap : Nat) (hn : l.length = n) (s : ByteArray) (hs : s.size ≤ 1000) (w : World) :
    Calls Tryz.prog 11 #[.agg #[.int .i64 7, .int .i64 a, .int .i64 b, .slice a0 n cap], .string s] w fun e w' => e = .returned (.bool (proofB a s)) ∧ Below w.heap.size w w' := by
  have HC : Hid (∀ W : World, Calls Tryz.prog 13 #[.agg #[.int .i64 7, .int .i64 a, .int .i64 b, .slice a0 n cap]] W fun e w' => e = .returned (.int .i64 0) ∧ Below W.heap.size W w') := Lib.hid fun W => by
    have h := refCheck_any ⟨7, a, b, l⟩ a0 n cap hn W
    rw [hc] at h
    exact h
  clear hc
  have HX : Hid (∀ W : World, Calls Tryz.prog 38 #[.int .i64 1, .string s] W fun e w' => DecRes a s e ∧ Below W.heap.size W w') := Lib.hid fun W => by
    refine (refDecode_any 1 s W (by omega) (by omega)).mono ?_
    rintro e w' ⟨⟨x, ok, he, hx⟩, hb⟩
    exact ⟨⟨x, ok, he, decRes hx⟩, hb⟩
  clear hn
  go_enter Tryz.func11, Tryz.ntmps11
  go_wp2_with fail
  refine (HC.out _).mono ?_
  rintro e w1 ⟨rfl, hb1⟩
  obtain ⟨hr1, hB1⟩ := rule_after hb1
  obtain ⟨c0, c1, c2, c3⟩ := rule_cells hr1
  have HR := Lib.hid hr1
  have HB := Lib.hid hB1
  have HB0 := Lib.hid hb1
  clear hb1 hr1 hB1
  go_wp2_with fail
  refine (HX.out _).mono ?_
  rintro e w2 ⟨⟨x, ok, rfl, hx⟩, hb2⟩
  have r2 := HR.out.below hb2 HR.out.lt
  have B2 := Lib.hid (HB.out.trans (hb2.mono HB.out.size))
  obtain ⟨c0, c1, c2, c3⟩ := rule_cells r2
  clear r2 hb2
  cases ok with
  | true =>
    have HQ : Hid (proofB a s = decide ((x.size : Int) = a)) := Lib.hid (hx.out.1 rfl)
    clear hx
    go_wp2_with fail
    go_ret
    exact ⟨ret_boolE (by rw [HQ.out, Bool.eq_iff_iff]; simp), B2.out⟩
  | false =>
    have HQ : Hid (proofB a s = false) := Lib.hid (hx.out.2 rfl)
    clear hx
    go_wp2_with fail
    go_ret
    exact ⟨ret_boolE (by rw [HQ.out]), B2.out⟩

set_option maxRecDepth 20000 in
set_option maxHeartbeats 2000000 in
theorem refFits_4 (a b : Int) (l : List ByteArray) (hc : FR.check ⟨4, a, b, l⟩ = 0) (a0 : Option Addr) (n cap : Nat) (hn : l.length = n) (s : ByteArray) (hs : s.size ≤ 1000) (w : World) (hv : Strs w (.slice a0 n cap) l) (hl : l.length ≤ 9223372036854775807) :
    Calls Tryz.prog 11 #[.agg #[.int .i64 4, .int .i64 a, .int .i64 b, .slice a0 n cap], .string s] w fun e w' => e = .returned (.bool (Lib.containsS l s)) ∧ Below w.heap.size w w' := by
  have HC : Hid (∀ W : World, Calls Tryz.prog 13 #[.agg #[.int .i64 4, .int .i64 a, .int .i64 b, .slice a0 n cap]] W fun e w' => e = .returned (.int .i64 0) ∧ Below W.heap.size W w') := Lib.hid fun W => by
    have h := refCheck_any ⟨4, a, b, l⟩ a0 n cap hn W
    rw [hc] at h
    exact h
  clear hc
  have HV := Lib.hid hv
  obtain ⟨a1, cp, g, off, he, hp, hcl⟩ := hv
  rw [hn] at he hp hcl hl
  injection he with he1 he2 he3
  subst he1
  subst he3
  have HT : Hid (∀ q, q < n → l.getD q ByteArray.empty = s → Lib.containsS l s = true) := Lib.hid fun q hq e => by
    refine (Lib.containsS_iff _ _).2 ?_
    rw [← e, List.getD_eq_getElem?_getD, List.getElem?_eq_getElem (by omega)]
    exact List.getElem_mem _
  have HF : Hid ((∀ q, q < n → l.getD q ByteArray.empty ≠ s) → Lib.containsS l s = false) := Lib.hid fun h => by
    cases hcs : Lib.containsS l s with
    | false => rfl
    | true =>
      obtain ⟨q, hq, e⟩ := List.mem_iff_getElem.1 ((Lib.containsS_iff _ _).1 hcs)
      exact absurd (by rw [List.getD_eq_getElem?_getD, List.getElem?_eq_getElem hq]; exact e) (h q (by omega))
  obtain ⟨R, HRp⟩ : ∃ R, Hid (Lib.containsS l s = R) := ⟨_, Lib.hid rfl⟩
  rw [HRp.out] at HT HF ⊢
  have HP := Lib.hid hp
  have HCL := Lib.hid hcl
  clear hn he2 hp hcl
  go_enter Tryz.func11, Tryz.ntmps11
  go_wp2_with fail
  refine (HC.out _).mono ?_
  rintro e w1 ⟨rfl, hb1⟩
  obtain ⟨hr1, hB1⟩ := rule_after hb1
  obtain ⟨c0, c1, c2, c3⟩ := rule_cells hr1
  have HR := Lib.hid hr1
  have HB := Lib.hid hB1
  have HB0 := Lib.hid hb1
  clear hb1 hr1 hB1
  go_wp2_with fail
  go_loop [108] (fun i => ∃ j : Nat, j ≤ n ∧ i = .int .i64 j ∧ Hid (∀ q, q < j → l.getD q ByteArray.empty ≠ s)) (fun i => n - (intOf i).toNat)
  case atStart => exact ⟨0, Nat.zero_le _, rfl, fun q hq => by omega⟩
  case round =>
    obtain ⟨j, hj, rfl, HJ⟩ := hrel
    by_cases hlt : j < n
    · obtain ⟨rfl, hg⟩ := HP.out (by omega)
      have hx := (HB.out.cell (p := ⟨g, off + j, none⟩) hg).trans (HCL.out j hlt)
      obtain ⟨x, HX⟩ : ∃ x, Hid (l.getD j ByteArray.empty = x) := ⟨_, Lib.hid rfl⟩
      rw [HX.out] at hx
      by_cases hxs : x = s
      · have hxe : (x.toList == s.toList) = true := by rw [hxs]; simp
        have HR1 : Hid (R = true) := Lib.hid (HT.out j hlt (by rw [HX.out]; exact hxs))
        clear hxs
        go_wp2
        go_ret
        exact ⟨ret_boolE HR1.out.symm, HB.out⟩
      · have hxe := str_ne hxs
        have HJ2 : Hid (∀ q, q < j + 1 → l.getD q ByteArray.empty ≠ s) := Lib.hid fun q hq => by
          rcases (by omega : q < j ∨ q = j) with h | h
          · exact HJ.out q h
          · subst h; rw [HX.out]; exact hxs
        clear hxs
        go_wp2
        go_round
        case rel => exact ⟨j + 1, by omega, by go_num, HJ2⟩
        case measure => simp [intOf]; omega
    · have HR1 : Hid (R = false) := Lib.hid (HF.out (fun q hq => HJ.out q (by omega)))
      go_wp2
      go_ret
      exact ⟨ret_boolE HR1.out.symm, HB.out⟩

end Go.Proofs.YtcecibopanfmgaaGreatDoor

namespace Go.Proofs.YtcecibopanfmgaaGreatDoor
open Go.RowKit
set_option linter.unusedVariables false

theorem plain_whole {s : ByteArray} (h : ∀ q, q < (runesB s).length → okP ((runesB s).getD q default).2 = true) : plainB s = whole s := by
  refine plain_of fun x hx => ?_
  obtain ⟨q, hq, rfl⟩ := List.mem_iff_getElem.1 hx
  have := h q hq
  rwa [List.getD_eq_getElem?_getD, List.getElem?_eq_getElem hq] at this
theorem plain_bad {s : ByteArray} {q : Nat} (hq : q < (runesB s).length) (h : okP ((runesB s).getD q default).2 = false) : plainB s = false := by
  refine plain_not (x := (runesB s).getD q default) ?_ h
  rw [List.getD_eq_getElem?_getD, List.getElem?_eq_getElem hq]
  exact List.getElem_mem _

set_option maxRecDepth 20000 in
set_option maxHeartbeats 2000000 in
theorem refFits_2 (a b : Int) (l : List ByteArray) (hc : FR.check ⟨2, a, b, l⟩ = 0) (a0 : Option Addr) (n cap : Nat) (hn : l.length = n) (s : ByteArray) (hs : s.size ≤ 1000) (w : World) :
    Calls Tryz.prog 11 #[.agg #[.int .i64 2, .int .i64 a, .int .i64 b, .slice a0 n cap], .string s] w fun e w' => e = .returned (.bool (winB a b (runesB s).length && plainB s)) ∧ Below w.heap.size w w' := by
  have HC : Hid (∀ W : World, Calls Tryz.prog 13 #[.agg #[.int .i64 2, .int .i64 a, .int .i64 b, .slice a0 n cap]] W fun e w' => e = .returned (.int .i64 0) ∧ Below W.heap.size W w') := Lib.hid fun W => by
    have h := refCheck_any ⟨2, a, b, l⟩ a0 n cap hn W
    rw [hc] at h
    exact h
  clear hc
  clear hn
  obtain ⟨R, HRR⟩ : ∃ R, Hid ((winB a b (runesB s).length && plainB s) = R) := ⟨_, Lib.hid rfl⟩
  rw [HRR.out]
  go_enter Tryz.func11, Tryz.ntmps11
  go_wp2_with fail
  refine (HC.out _).mono ?_
  rintro e w1 ⟨rfl, hb1⟩
  obtain ⟨hr1, hB1⟩ := rule_after hb1
  obtain ⟨c0, c1, c2, c3⟩ := rule_cells hr1
  have HR := Lib.hid hr1
  have HB := Lib.hid hB1
  have HB0 := Lib.hid hb1
  clear hb1 hr1 hB1
  go_wp2_with fail
  refine (refRunes_any s _ (by omega)).mono ?_
  rintro e w2 ⟨v1, v2, rfl, hT, hb2⟩
  have r2 := HR.out.below hb2 HR.out.lt
  have B2 := Lib.hid (HB.out.trans (hb2.mono HB.out.size))
  obtain ⟨c0, c1, c2, c3⟩ := rule_cells r2
  obtain ⟨N, hN⟩ : ∃ N, (runesB s).length = N := ⟨_, rfl⟩
  obtain ⟨p1, cap1, rfl⟩ := own_form hT.1
  obtain ⟨p2, cap2, rfl⟩ := own_form hT.2.1
  have HT := Lib.hid hT
  have HNs : Hid (N ≤ s.size) := Lib.hid (by rw [← hN]; exact runesB_length s)
  have HBAD : Hid (∀ q, q < N → okP ((runesB s).getD q default).2 = false → R = false) := Lib.hid fun q hq h => by
    rw [← HRR.out, plain_bad (by omega) h, Bool.and_false]
  have HOK : Hid ((∀ q, q < N → okP ((runesB s).getD q default).2 = true) → R = (winB a b N && whole s)) := Lib.hid fun h => by
    rw [← HRR.out, plain_whole (by rw [hN]; exact h), hN]
  rw [hN] at HT ⊢
  have HNN := Lib.hid hN
  have hN9 : N ≤ 1000 := by have := HNs.out; omega
  obtain ⟨bd, HBD⟩ : ∃ bd, Hid (badB s = bd) := ⟨_, Lib.hid rfl⟩
  rw [HBD.out]
  have HWH : Hid (whole s = decide (bd < 0)) := Lib.hid (by
    rw [← HBD.out]
    unfold badB
    cases whole s with
    | true => rfl
    | false => show false = decide (((goodEnd s : Nat) : Int) < 0); simp)
  clear r2 hb2 hT hN
  go_wp2_with fail
  go_loop [57] (fun i => ∃ j : Nat, j ≤ N ∧ i = .int .i64 j ∧ Hid (∀ q, q < j → okP ((runesB s).getD q default).2 = true)) (fun i => N - (intOf i).toNat)
  case atStart => exact ⟨0, Nat.zero_le _, rfl, fun q hq => by omega⟩
  case round =>
    obtain ⟨j, hj, rfl, HJ⟩ := hrel
    by_cases hlt : j < N
    · obtain ⟨g2, cp2, e2, _⟩ := HT.out.2.1.form (by rw [HNN.out]; omega)
      injection e2 with e2 e2b e2c
      subst e2
      clear e2b e2c
      obtain ⟨c, HCc⟩ : ∃ c : Nat, Hid (((runesB s).getD j default).2 = c) := ⟨_, Lib.hid rfl⟩
      have hx : w2.cell? ⟨g2, j, none⟩ = some (.int .i64 (c : Nat)) := by
        have hR := HT.out.2.1
        rw [HNN.out] at hR
        rw [hR.cellAt (g := g2) j (by omega), ← HCc.out, List.getElem?_map, List.getD_eq_getElem?_getD, List.getElem?_eq_getElem (by rw [HNN.out]; exact hlt)]
        rfl
      cases ho : okP c with
      | true =>
        have ho2 := ho
        unfold okP at ho2
        rw [Bool.and_eq_true, decide_eq_true_eq, decide_eq_true_eq] at ho2
        have h32 : (32 : Int) ≤ (c : Int) := by omega
        have h127 : ((c : Int) == 127) = false := by simp; omega
        have HJ2 : Hid (∀ q, q < j + 1 → okP ((runesB s).getD q default).2 = true) := Lib.hid fun q hq => by
          rcases (by omega : q < j ∨ q = j) with h | h
          · exact HJ.out q h
          · subst h; rw [HCc.out]; exact ho
        clear ho ho2
        go_wp2
        go_round
        case rel => exact ⟨j + 1, by omega, by go_num, HJ2⟩
        case measure => simp [intOf]; omega
      | false =>
        have HR0 : Hid (R = false) := Lib.hid (HBAD.out j hlt (by rw [HCc.out]; exact ho))
        have ho2 : c < 32 ∨ c = 127 := by
          unfold okP at ho
          rw [Bool.and_eq_false_iff, decide_eq_false_iff_not, decide_eq_false_iff_not] at ho
          omega
        clear ho
        rcases ho2 with h | h
        · have h32 : (c : Int) < 32 := by omega
          clear h
          go_wp2
          go_ret
          exact ⟨ret_boolE HR0.out.symm, B2.out⟩
        · subst h
          go_wp2
          go_ret
          exact ⟨ret_boolE HR0.out.symm, B2.out⟩
    · have HR0 : Hid (R = (winB a b N && decide (bd < 0))) := Lib.hid (by rw [← HWH.out]; exact HOK.out (fun q hq => HJ.out q (by omega)))
      by_cases hbd : bd < 0
      · by_cases h1 : a ≤ (N : Int)
        · by_cases h2 : (N : Int) ≤ b
          · have HR1 : Hid (R = true) := Lib.hid (by rw [HR0.out]; unfold winB; rw [decide_eq_true h1, decide_eq_true h2, decide_eq_true hbd]; rfl)
            go_wp2
            go_ret
            exact ⟨ret_boolE HR1.out.symm, B2.out⟩
          · have HR1 : Hid (R = false) := Lib.hid (by rw [HR0.out]; unfold winB; rw [decide_eq_false h2, Bool.and_false, Bool.false_and])
            go_wp2
            go_ret
            exact ⟨ret_boolE HR1.out.symm, B2.out⟩
        · have HR1 : Hid (R = false) := Lib.hid (by rw [HR0.out]; unfold winB; rw [decide_eq_false h1, Bool.false_and, Bool.false_and])
          go_wp2
          go_ret
          exact ⟨ret_boolE HR1.out.symm, B2.out⟩
      · have HR1 : Hid (R = false) := Lib.hid (by rw [HR0.out, decide_eq_false hbd, Bool.and_false])
        go_wp2
        go_ret
        exact ⟨ret_boolE HR1.out.symm, B2.out⟩

/-- The first j bytes are nought. -/
def noughts (u : List UInt8) (j : Nat) : Bool := decide (∀ q, q < j → u.getD q 0 = 0)
theorem noughts_all {u : List UInt8} (h : u.length = 16) : noughts u 16 = decide (u = List.replicate 16 0) := by
  unfold noughts
  refine decide_eq_decide.2 ⟨fun hq => List.ext_getElem (by rw [h]; rfl) fun i h1 h2 => ?_, fun e => ?_⟩
  · have := hq i (by omega)
    rw [List.getD_eq_getElem?_getD, List.getElem?_eq_getElem h1] at this
    rw [List.getElem_replicate]
    exact this
  · subst e
    intro q hq
    rw [List.getD_eq_getElem?_getD, List.getElem?_replicate, if_pos hq]
    rfl
theorem noughts_on {u : List UInt8} {j : Nat} (h : u.getD j 0 = 0) : noughts u (j + 1) = noughts u j := by
  unfold noughts
  refine decide_eq_decide.2 ⟨fun hq q h1 => hq q (by omega), fun hq q h1 => ?_⟩
  rcases (by omega : q < j ∨ q = j) with h2 | h2
  · exact hq q h2
  · rw [h2]; exact h
theorem noughts_off {u : List UInt8} {j : Nat} (h : u.getD j 0 ≠ 0) : noughts u (j + 1) = false := decide_eq_false (fun hq => h (hq j (by omega)))

set_option maxRecDepth 20000 in
set_option maxHeartbeats 2000000 in
theorem refFits_3 (a b : Int) (l : List ByteArray) (hc : FR.check ⟨3, a, b, l⟩ = 0) (a0 : Option Addr) (n cap : Nat) (hn : l.length = n) (s : ByteArray) (hs : s.size ≤ 1000) (w : World) :
    Calls Tryz.prog 11 #[.agg #[.int .i64 3, .int .i64 a, .int .i64 b, .slice a0 n cap], .string s] w fun e w' => e = .returned (.bool (idB s)) ∧ Below w.heap.size w w' := by
  have HC : Hid (∀ W : World, Calls Tryz.prog 13 #[.agg #[.int .i64 3, .int .i64 a, .int .i64 b, .slice a0 n cap]] W fun e w' => e = .returned (.int .i64 0) ∧ Below W.heap.size W w') := Lib.hid fun W => by
    have h := refCheck_any ⟨3, a, b, l⟩ a0 n cap hn W
    rw [hc] at h
    exact h
  clear hc
  have hz := (zero_of_info u16_info).1
  clear hn
  obtain ⟨u, ok, hul, HX, HI⟩ : ∃ (u : List UInt8) (ok : Bool), u.length = 16 ∧ Hid (∀ W : World, Calls Tryz.prog 35 #[.string s] W fun e w' => e = .returned (.tuple #[.agg (u.map bv).toArray, .bool ok]) ∧ Below W.heap.size W w') ∧ Hid (idB s = (ok && !noughts u 16)) := by
    by_cases h : ∃ l, IsId s.data.toList l
    · obtain ⟨u, hu⟩ := h
      exact ⟨u, true, hu.1, Lib.hid fun W => refParse_ok s u hu W, Lib.hid (by rw [idB_yes hu, noughts_all hu.1, Bool.true_and])⟩
    · refine ⟨List.replicate 16 0, false, rfl, Lib.hid fun W => ?_, Lib.hid (idB_no (fun l hl => h ⟨l, hl⟩))⟩
      have hp := refParse_bad s (fun l hl => h ⟨l, hl⟩) W
      rw [z16_eq] at hp
      exact hp
  obtain ⟨R, HRR⟩ : ∃ R, Hid ((ok && !noughts u 16) = R) := ⟨_, Lib.hid rfl⟩
  rw [HI.out, HRR.out]
  have hget : ∀ j, j < 16 → (u.map bv).toArray[j]? = some (.int .u8 ((u.getD j 0).toNat : Int)) := fun j hj => by
    rw [List.getElem?_toArray, List.getElem?_map, List.getD_eq_getElem?_getD, List.getElem?_eq_getElem (by omega)]
    rfl
  have hone := one_bytes u
  obtain ⟨C, hC⟩ : ∃ C, u.map bv = C := ⟨_, rfl⟩
  have hCl : C.length = 16 := by rw [← hC, List.length_map, hul]
  rw [hC] at HX hone hget
  have HO := Lib.hid (And.intro hone (And.intro hCl hget))
  clear hC hone hCl hul hget
  go_enter Tryz.func11, Tryz.ntmps11
  go_wp2_with fail
  refine (HC.out _).mono ?_
  rintro e w1 ⟨rfl, hb1⟩
  obtain ⟨hr1, hB1⟩ := rule_after hb1
  obtain ⟨c0, c1, c2, c3⟩ := rule_cells hr1
  have HR := Lib.hid hr1
  have HB := Lib.hid hB1
  have HB0 := Lib.hid hb1
  clear hb1 hr1 hB1
  go_wp2_with fail
  refine (HX.out _).mono ?_
  rintro e w2 ⟨rfl, hb2⟩
  have q := Row.new w2 45 z16
  have hB2 := HB.out.trans (hb2.mono HB.out.size)
  have bq : Below w.heap.size w (w2.alloc (.cells z16.toArray 45)) := hB2.alloc hB2.size _
  have HQ := Lib.hid (And.intro q bq)
  have HS2 := Lib.hid hB2.size
  clear q bq hb2 hB2 c0 c1 c2 c3
  go_wp2_with (first
    | (refine wpList_store_row rfl 45 (.tmp 10) (.tmp 89) rfl w2.heap.size C.toArray rfl rfl 45 z16.toArray HQ.out.1 (by rw [u16_size, List.size_toArray, HO.out.2.1]) (by rw [List.size_toArray, List.size_toArray, HO.out.2.1]; rfl) HO.out.1 ?_)
    | (refine wpList_load_row rfl 45 (.tmp 10) rfl w2.heap.size rfl 45 C.toArray (0, 0) _ (HQ.out.1.put C) Tryz.underlying45 rfl (by rw [u16_size, List.size_toArray, HO.out.2.1]) ?_)
    | fail)
  have hB3 := Lib.hid (below_setRow (B := w.heap.size) HQ.out.2 HS2.out C.toArray)
  clear HQ HS2
  generalize (w2.alloc (.cells z16.toArray 45)).setRow w2.heap.size C.toArray = w3 at hB3 ⊢
  go_loop [12, 92] (fun z i => ∃ j : Nat, j ≤ 16 ∧ i = .int .i64 j ∧ ∃ t : Bool, z = .bool t ∧ Hid (noughts u j = t)) (fun _ i => 16 - (intOf i).toNat)
  case atStart => exact ⟨0, by omega, rfl, true, rfl, Lib.hid (decide_eq_true (fun q hq => by omega))⟩
  case round =>
    obtain ⟨j, hj, rfl, t, rfl, HJ⟩ := hrel
    by_cases hlt : j < 16
    · obtain ⟨x, HXx⟩ : ∃ x, Hid (u.getD j 0 = x) := ⟨_, Lib.hid rfl⟩
      have hg := HO.out.2.2 j hlt
      rw [HXx.out] at hg
      have hix := fun W' => run_index_agg (P := Tryz.prog) 45 5 16 C.toArray j _ Tryz.underlying45 hlt hg W' (Tryz.sizeOf5 W') (Tryz.isAgg5 W')
      clear hg
      by_cases hx0 : x = 0
      · subst hx0
        have HJ2 : Hid (noughts u (j + 1) = t) := Lib.hid (by rw [noughts_on HXx.out]; exact HJ.out)
        simp only [show ((0 : UInt8).toNat : Int) = 0 from rfl] at hix
        go_wp2
        go_round
        case rel => exact ⟨j + 1, by omega, by go_num, t, rfl, HJ2⟩
        case measure => simp [intOf]; omega
      · have HJ2 : Hid (noughts u (j + 1) = false) := Lib.hid (noughts_off (by rw [HXx.out]; exact hx0))
        have hne : ((x.toNat : Int) != 0) = true := by
          rw [bne_iff_ne]
          intro e
          exact hx0 (UInt8.toNat_inj.1 (by rw [show x.toNat = 0 by omega]; rfl))
        clear hx0
        go_wp2
        go_round
        case rel => exact ⟨j + 1, by omega, by go_num, false, rfl, HJ2⟩
        case measure => simp [intOf]; omega
    · have HR0 : Hid (R = (ok && !t)) := Lib.hid (by rw [← HRR.out, show 16 = j by omega, HJ.out])
      cases ok with
      | false =>
        go_wp2
        go_ret
        exact ⟨ret_boolE HR0.out.symm, hB3.out⟩
      | true =>
        go_wp2
        go_ret
        exact ⟨ret_boolE HR0.out.symm, hB3.out⟩

set_option maxRecDepth 20000 in
/-- Whether a text fits a rule, by the document. -/
theorem refFits_any (r : FR) (v : Value) (s : ByteArray) (hs : s.size ≤ 1000) (hl : r.texts.length ≤ 9223372036854775807) (w : World) (hv : Strs w v r.texts) :
    Calls Tryz.prog 11 #[.agg #[.int .i64 r.kind, .int .i64 r.least, .int .i64 r.most, v], .string s] w fun e w' => e = .returned (.bool (r.fits s)) ∧ Below w.heap.size w w' := by
  have hv2 := hv
  obtain ⟨a0, cap, g, off, rfl, _, _⟩ := hv
  by_cases hc : r.check = 0
  · have hk := FR.check_known hc
    have e : r.fits s = fitK r.kind r.least r.most r.texts s := by unfold FR.fits; rw [if_pos hc]
    rw [e]
    obtain ⟨k, a, b, l⟩ := r
    dsimp only at hk hv2 hl ⊢
    obtain ⟨hk1, hk8⟩ := hk
    rcases (by omega : k = 1 ∨ k = 2 ∨ k = 3 ∨ k = 4 ∨ k = 5 ∨ k = 6 ∨ k = 7 ∨ k = 8) with rfl | rfl | rfl | rfl | rfl | rfl | rfl | rfl
    · exact refFits_1 a b l hc a0 _ cap rfl s hs w
    · exact refFits_2 a b l hc a0 _ cap rfl s hs w
    · exact refFits_3 a b l hc a0 _ cap rfl s hs w
    · exact refFits_4 a b l hc a0 _ cap rfl s hs w hv2 hl
    · exact refFits_5 a b l hc a0 _ cap rfl s hs w
    · exact refFits_6 a b l hc a0 _ cap rfl s hs w
    · exact refFits_7 a b l hc a0 _ cap rfl s hs w
    · exact refFits_8 a b l hc a0 _ cap rfl s hs w
  · have e : r.fits s = false := by unfold FR.fits; rw [if_neg hc]
    rw [e]
    have HC : Hid (∀ W : World, Calls Tryz.prog 13 #[.agg #[.int .i64 r.kind, .int .i64 r.least, .int .i64 r.most, .slice a0 r.texts.length cap]] W fun e w' => e = .returned (.int .i64 r.check) ∧ Below W.heap.size W w') := Lib.hid fun W => refCheck_any r a0 _ cap rfl W
    obtain ⟨C, hC⟩ : ∃ C, r.check = C := ⟨_, rfl⟩
    rw [hC] at HC hc
    have hC0 : (C != 0) = true := by rw [bne_iff_ne]; exact hc
    obtain ⟨k, a, b, l⟩ := r
    dsimp only at HC hl ⊢
    generalize l.length = n at HC hl ⊢
    clear hC hc e hv2
    go_enter Tryz.func11, Tryz.ntmps11
    go_wp2_with fail
    refine (HC.out _).mono ?_
    rintro e w1 ⟨rfl, hb1⟩
    obtain ⟨hr1, hB1⟩ := rule_after hb1
    have HB := Lib.hid hB1
    clear hb1 hr1 hB1
    go_wp2_with fail
    go_ret
    exact ⟨rfl, HB.out⟩
end Go.Proofs.YtcecibopanfmgaaGreatDoor

namespace Go.Proofs.YtcecibopanfmgaaGreatDoor
open Go.RowKit
set_option linter.unusedVariables false

def lightB (l : List ByteArray) (s : ByteArray) : Bool := (decide (l = []) || (decide (l.length ≤ 20) && l.all (fun t => decide (t.size ≤ 100)))) && decide (s.size ≤ 1000)
theorem light_not {l : List ByteArray} {j : Nat} {s : ByteArray} (hj : j < l.length) (h : 20 < l.length ∨ 100 < (l.getD j ByteArray.empty).size) : lightB l s = false := by
  unfold lightB
  rw [Bool.and_eq_false_iff]
  left
  rw [Bool.or_eq_false_iff]
  refine ⟨decide_eq_false (fun e => by rw [e] at hj; simp at hj), ?_⟩
  rw [Bool.and_eq_false_iff]
  rcases h with h | h
  · left; exact decide_eq_false (by omega)
  · right
    rw [List.all_eq_false]
    refine ⟨l.getD j ByteArray.empty, ?_, ?_⟩
    · rw [List.getD_eq_getElem?_getD, List.getElem?_eq_getElem hj]; exact List.getElem_mem _
    · simp only [decide_eq_true_eq]; omega
theorem light_is {l : List ByteArray} {s : ByteArray} (h : 0 < l.length → l.length ≤ 20 ∧ ∀ j, j < l.length → (l.getD j ByteArray.empty).size ≤ 100) : lightB l s = decide (s.size ≤ 1000) := by
  unfold lightB
  by_cases h0 : l = []
  · rw [decide_eq_true h0]; rfl
  · have hp : 0 < l.length := List.length_pos_iff.2 h0
    obtain ⟨h1, h2⟩ := h hp
    rw [decide_eq_true h1, show l.all (fun t => decide (t.size ≤ 100)) = true from ?_]
    · simp
    · rw [List.all_eq_true]
      intro t ht
      obtain ⟨j, hj, rfl⟩ := List.mem_iff_getElem.1 ht
      have := h2 j hj
      rw [List.getD_eq_getElem?_getD, List.getElem?_eq_getElem hj] at this
      exact decide_eq_true this

set_option maxRecDepth 20000 in
set_option maxHeartbeats 1000000 in
theorem light_any (k a b : Int) (v : Value) (l : List ByteArray) (s : ByteArray) (w : World) (hv : Strs w v l) (hs : s.size ≤ 140737488355328) (hl : l.length ≤ 9223372036854775807) :
    Calls Tryz.prog 8 #[.agg #[.int .i64 k, .int .i64 a, .int .i64 b, v], .string s] w fun e w' => e = .returned (.bool (lightB l s)) ∧ Below w.heap.size w w' := by
  obtain ⟨a0, cap, g, off, rfl, hp, hc⟩ := hv
  have hr : Row (w.alloc (.cells #[.int .i64 k, .int .i64 a, .int .i64 b, .slice a0 l.length cap] 24)) w.heap.size 24 [.int .i64 k, .int .i64 a, .int .i64 b, .slice a0 l.length cap] := Row.new w _ _
  have hb : Below w.heap.size w (w.alloc (.cells #[.int .i64 k, .int .i64 a, .int .i64 b, .slice a0 l.length cap] 24)) := (Below.refl w.heap.size w).alloc (Nat.le_refl _) _
  have hcw : ∀ j, j < l.length → (w.alloc (.cells #[.int .i64 k, .int .i64 a, .int .i64 b, .slice a0 l.length cap] 24)).cell? ⟨g, off + j, none⟩ = some (.string (l.getD j ByteArray.empty)) := fun j hj => Lib.cell?_alloc_some _ (hc j hj)
  have HL : Hid (∀ j, j < l.length → (20 < l.length ∨ 100 < (l.getD j ByteArray.empty).size) → lightB l s = false) := Lib.hid fun j hj h => light_not hj h
  have HI : Hid ((0 < l.length → l.length ≤ 20 ∧ ∀ j, j < l.length → (l.getD j ByteArray.empty).size ≤ 100) → lightB l s = decide (s.size ≤ 1000)) := Lib.hid light_is
  obtain ⟨n, hn⟩ : ∃ n, l.length = n := ⟨_, rfl⟩
  have HN := Lib.hid hn
  rw [hn] at hp hcw hr hb hl HL HI ⊢
  clear hn hc
  have HP := Lib.hid hp
  have HC := Lib.hid hcw
  have HR := Lib.hid hr
  have HB := Lib.hid hb
  clear hp hcw hr hb
  obtain ⟨R, HRR⟩ : ∃ R, Hid (lightB l s = R) := ⟨_, Lib.hid rfl⟩
  rw [HRR.out] at HL HI ⊢
  go_enter Tryz.func8, Tryz.ntmps8
  go_wp2_with fail
  have hB := HB.out
  have hR := HR.out
  have hC := HC.out
  clear HB HR HC
  generalize w.alloc (.cells #[.int .i64 k, .int .i64 a, .int .i64 b, .slice a0 n cap] 24) = w1 at hB hR hC ⊢
  have c3 := (rule_cells hR).2.2.2
  have HC := Lib.hid hC
  have HB := Lib.hid hB
  clear hB hR hC
  go_loop [10] (fun i => ∃ j : Nat, j ≤ n ∧ i = .int .i64 j ∧ Hid (∀ q, q < j → n ≤ 20 ∧ (l.getD q ByteArray.empty).size ≤ 100)) (fun i => n - (intOf i).toNat)
  case atStart => exact ⟨0, Nat.zero_le _, rfl, fun q hq => by omega⟩
  case round =>
    obtain ⟨j, hj, rfl, HJ⟩ := hrel
    by_cases hlt : j < n
    · obtain ⟨rfl, hg⟩ := HP.out (by omega)
      have hx := HC.out j hlt
      obtain ⟨x, HX⟩ : ∃ x, Hid (l.getD j ByteArray.empty = x) := ⟨_, Lib.hid rfl⟩
      rw [HX.out] at hx
      by_cases h20 : n ≤ 20
      · by_cases hx1 : x.size ≤ 100
        · have HJ2 : Hid (∀ q, q < j + 1 → n ≤ 20 ∧ (l.getD q ByteArray.empty).size ≤ 100) := Lib.hid fun q hq => by
            rcases (by omega : q < j ∨ q = j) with h | h
            · exact HJ.out q h
            · subst h; rw [HX.out]; exact ⟨h20, hx1⟩
          go_wp2
          go_round
          case rel => exact ⟨j + 1, by omega, by go_num, HJ2⟩
          case measure => simp [intOf]; omega
        · have HR0 : Hid (R = false) := Lib.hid (HL.out j hlt (.inr (by rw [HX.out]; omega)))
          go_wp2
          go_ret
          exact ⟨ret_boolE HR0.out.symm, HB.out⟩
      · have HR0 : Hid (R = false) := Lib.hid (HL.out j hlt (.inl (by omega)))
        go_wp2
        go_ret
        exact ⟨ret_boolE HR0.out.symm, HB.out⟩
    · have HR0 : Hid (R = decide (s.size ≤ 1000)) := Lib.hid (HI.out (fun h => ⟨(HJ.out 0 (by omega)).1, fun q hq => (HJ.out q (by omega)).2⟩))
      go_wp2
      go_ret
      exact ⟨ret_boolE (by rw [HR0.out, Bool.eq_iff_iff, decide_eq_true_eq, decide_eq_true_eq]; omega), HB.out⟩
end Go.Proofs.YtcecibopanfmgaaGreatDoor

namespace Go.Proofs.YtcecibopanfmgaaGreatDoor
open Go.RowKit
set_option linter.unusedVariables false

theorem light_yes {l : List ByteArray} {s : ByteArray} (h : lightB l s = true) : l.length ≤ 20 ∧ s.size ≤ 1000 := by
  unfold lightB at h
  rw [Bool.and_eq_true, Bool.or_eq_true, Bool.and_eq_true, decide_eq_true_eq, decide_eq_true_eq, decide_eq_true_eq] at h
  refine ⟨?_, h.2⟩
  rcases h.1 with h1 | h1
  · rw [h1]; exact Nat.zero_le _
  · exact h1.1

set_option maxRecDepth 100000 in
set_option maxHeartbeats 2000000 in
theorem FormatFits_walk (r : FR) (v0 : Value) (s : ByteArray) (w : World) (hr : r.ok) (hv : Strs w v0 r.texts) (hl : r.texts.length ≤ 9223372036854775807) (hs : s.size ≤ 140737488355328) (hG : G w) (hM : M w) :
    Calls Tryz.prog 3 #[.agg #[.int .i64 r.kind, .int .i64 r.least, .int .i64 r.most, v0], .string s] w fun e w' => e = .returned (.bool true) ∧ Below w.heap.size w w' := by
  have hFits : Hid (∀ (v : Value) (W : World), s.size ≤ 1000 → Strs W v r.texts → M W → Calls Tryz.prog 10 #[.agg #[.int .i64 r.kind, .int .i64 r.least, .int .i64 r.most, v], .string s] W fun e w' => e = .returned (.bool (r.fits s)) ∧ Below W.heap.size W w') := Lib.hid fun v W h1 h2 h3 => Fits_any r v s h1 hl W h2 h3
  have hRef : Hid (∀ (v : Value) (W : World), s.size ≤ 1000 → Strs W v r.texts → Calls Tryz.prog 11 #[.agg #[.int .i64 r.kind, .int .i64 r.least, .int .i64 r.most, v], .string s] W fun e w' => e = .returned (.bool (r.fits s)) ∧ Below W.heap.size W w') := Lib.hid fun v W h1 h2 => refFits_any r v s h1 hl W h2
  have hChk : Hid (∀ (a0 : Option Addr) (n cap : Nat) (W : World), r.texts.length = n → Calls Tryz.prog 12 #[.agg #[.int .i64 r.kind, .int .i64 r.least, .int .i64 r.most, .slice a0 n cap]] W fun e w' => e = .returned (.int .i64 r.check) ∧ Below W.heap.size W w') := Lib.hid fun a0 n cap W h => Check_any r a0 n cap h W
  have hRChk : Hid (∀ (a0 : Option Addr) (n cap : Nat) (W : World), r.texts.length = n → Calls Tryz.prog 13 #[.agg #[.int .i64 r.kind, .int .i64 r.least, .int .i64 r.most, .slice a0 n cap]] W fun e w' => e = .returned (.int .i64 r.check) ∧ Below W.heap.size W w') := Lib.hid fun a0 n cap W h => refCheck_any r a0 n cap h W
  obtain ⟨F, hF⟩ : ∃ F, r.fits s = F := ⟨_, rfl⟩
  obtain ⟨C, hC⟩ : ∃ C, r.check = C := ⟨_, rfl⟩
  rw [hF] at hFits hRef
  rw [hC] at hChk hRChk
  clear hF hC
  obtain ⟨k, a, b, l⟩ := r
  dsimp only at hFits hRef hChk hRChk hv hl ⊢
  have hLt : Hid (∀ (v : Value) (W : World), Strs W v l → Calls Tryz.prog 8 #[.agg #[.int .i64 k, .int .i64 a, .int .i64 b, v], .string s] W fun e w' => e = .returned (.bool (lightB l s)) ∧ Below W.heap.size W w') := Lib.hid fun v W h => light_any k a b v l s W h hs hl
  obtain ⟨L, hL⟩ : ∃ L, lightB l s = L := ⟨_, rfl⟩
  rw [hL] at hLt
  have HL := Lib.hid hL
  have HV := Lib.hid hv
  have HG := Lib.hid hG
  have HM := Lib.hid hM
  obtain ⟨a0, cap, g, off, rfl, hx1, hx2⟩ := hv
  clear hx1 hx2
  obtain ⟨n, hn⟩ : ∃ n, l.length = n := ⟨_, rfl⟩
  rw [hn] at HV ⊢
  have HN := Lib.hid hn
  have hr0 : Row (w.alloc (.cells #[.int .i64 k, .int .i64 a, .int .i64 b, .slice a0 n cap] 24)) w.heap.size 24 [.int .i64 k, .int .i64 a, .int .i64 b, .slice a0 n cap] := Row.new w _ _
  have hb0 : Below w.heap.size w (w.alloc (.cells #[.int .i64 k, .int .i64 a, .int .i64 b, .slice a0 n cap] 24)) := (Below.refl w.heap.size w).alloc (Nat.le_refl _) _
  have H0 := Lib.hid (And.intro hr0 hb0)
  clear hL hG hM hn hr0 hb0 hs hl hr
  have hCC : (C == C) = true := by simp
  have hFF : (F == F) = true := by simp
  go_enter Tryz.func3, Tryz.ntmps3
  go_wp2_with fail
  have hb0 := H0.out.2
  refine (awake14_any _ (HG.out.below hb0) (HM.out.below hb0)).mono ?_
  rintro e w1 ⟨rfl, hb1⟩
  have r1 := H0.out.1.below hb1 (by simp)
  have B1 := H0.out.2.trans (hb1.mono (by simp))
  obtain ⟨c0, c1, c2, c3⟩ := rule_cells r1
  have H1 := Lib.hid (And.intro r1 B1)
  clear hb0 hb1 r1 B1 H0
  go_wp2_with fail
  refine (hLt.out _ _ (HV.out.below (Nat.le_refl _) H1.out.2)).mono ?_
  rintro e w2 ⟨rfl, hb2⟩
  have r2 := H1.out.1.below hb2 H1.out.1.lt
  have B2 := H1.out.2.trans (hb2.mono H1.out.2.size)
  obtain ⟨c0, c1, c2, c3⟩ := rule_cells r2
  have H2 := Lib.hid (And.intro r2 B2)
  clear hb2 r2 B2 H1
  cases L with
  | false =>
    go_wp2_with fail
    go_ret
    exact ⟨rfl, H2.out.2⟩
  | true =>
    have hly := light_yes HL.out
    have HS := Lib.hid hly
    clear hly
    go_wp2_with fail
    refine (Of_any k a b _ l _ (HV.out.below (Nat.le_refl _) H2.out.2) (by have := HS.out.1; omega)).mono ?_
    rintro e w3 ⟨v', rfl, hs3, hb3⟩
    have hs3' := hs3
    obtain ⟨a3, cap3, g3, off3, rfl, hx1, hx2⟩ := hs3
    clear hx1 hx2
    rw [HN.out] at hs3' ⊢
    have r3 := H2.out.1.below hb3 H2.out.1.lt
    have B3 := H2.out.2.trans (hb3.mono H2.out.2.size)
    have q : Row (w3.alloc (.cells #[.int .i64 0, .int .i64 0, .int .i64 0, .slice none 0 0] 24)) w3.heap.size 24 [.int .i64 0, .int .i64 0, .int .i64 0, .slice none 0 0] := Row.new w3 _ _
    have H3 := Lib.hid (And.intro r3 (And.intro B3 (And.intro hs3' q)))
    clear hb3 r3 B3 H2 c0 c1 c2 c3 hs3' q
    go_wp2_with (refine wpList_store_row rfl 24 (.tmp 5) (.tmp 20) rfl w3.heap.size #[.int .i64 k, .int .i64 a, .int .i64 b, .slice a3 n cap3] rfl rfl 24 #[.int .i64 0, .int .i64 0, .int .i64 0, .slice none 0 0] H3.out.2.2.2 rule_info rfl (by simp [Value.oneCell']) ?_)
    have q3 := H3.out.2.2.2.put [.int .i64 k, .int .i64 a, .int .i64 b, .slice a3 n cap3]
    have hbw : Below w3.heap.size w3 ((w3.alloc (.cells #[.int .i64 0, .int .i64 0, .int .i64 0, .slice none 0 0] 24)).setRow w3.heap.size #[.int .i64 k, .int .i64 a, .int .i64 b, .slice a3 n cap3]) := below_setRow ((Below.refl _ _).alloc (Nat.le_refl _) _) (Nat.le_refl _) _
    generalize (w3.alloc (.cells #[.int .i64 0, .int .i64 0, .int .i64 0, .slice none 0 0] 24)).setRow w3.heap.size #[.int .i64 k, .int .i64 a, .int .i64 b, .slice a3 n cap3] = w5 at q3 hbw ⊢
    have HRa : Hid (∀ W, Below w5.heap.size w5 W → Row W w.heap.size 24 [.int .i64 k, .int .i64 a, .int .i64 b, .slice a0 n cap]) := Lib.hid fun W h => (H3.out.1.below hbw H3.out.1.lt).below h (Nat.lt_of_lt_of_le H3.out.1.lt hbw.size)
    have HRb : Hid (∀ W, Below w5.heap.size w5 W → Row W w3.heap.size 24 [.int .i64 k, .int .i64 a, .int .i64 b, .slice a3 n cap3]) := Lib.hid fun W h => q3.below h q3.lt
    have HB5 : Hid (Below w.heap.size w w5) := Lib.hid (H3.out.2.1.trans (hbw.mono H3.out.2.1.size))
    have HMw : Hid (∀ W, Below w5.heap.size w5 W → M W) := Lib.hid fun W h => HM.out.below (HB5.out.trans (h.mono HB5.out.size))
    have HS1 : Hid (∀ W, Below w5.heap.size w5 W → Strs W (.slice a0 n cap) l) := Lib.hid fun W h => HV.out.below (Nat.le_refl _) (HB5.out.trans (h.mono HB5.out.size))
    have HS2 : Hid (∀ W, Below w5.heap.size w5 W → Strs W (.slice a3 n cap3) l) := Lib.hid fun W h => (H3.out.2.2.1.below (Nat.le_refl _) hbw).below (Nat.le_refl _) h
    have HF1 : Hid (∀ W, Below w5.heap.size w5 W → Calls Tryz.prog 10 #[.agg #[.int .i64 k, .int .i64 a, .int .i64 b, .slice a0 n cap], .string s] W fun e w' => e = .returned (.bool F) ∧ Below W.heap.size W w') := Lib.hid fun W h => hFits.out _ W HS.out.2 (HS1.out W h) (HMw.out W h)
    have HF2 : Hid (∀ W, Below w5.heap.size w5 W → Calls Tryz.prog 10 #[.agg #[.int .i64 k, .int .i64 a, .int .i64 b, .slice a3 n cap3], .string s] W fun e w' => e = .returned (.bool F) ∧ Below W.heap.size W w') := Lib.hid fun W h => hFits.out _ W HS.out.2 (HS2.out W h) (HMw.out W h)
    have HRF : Hid (∀ W, Below w5.heap.size w5 W → Calls Tryz.prog 11 #[.agg #[.int .i64 k, .int .i64 a, .int .i64 b, .slice a0 n cap], .string s] W fun e w' => e = .returned (.bool F) ∧ Below W.heap.size W w') := Lib.hid fun W h => hRef.out _ W HS.out.2 (HS1.out W h)
    have HC1 : Hid (∀ W, Below w5.heap.size w5 W → Calls Tryz.prog 12 #[.agg #[.int .i64 k, .int .i64 a, .int .i64 b, .slice a0 n cap]] W fun e w' => e = .returned (.int .i64 C) ∧ Below W.heap.size W w') := Lib.hid fun W h => hChk.out _ n _ W HN.out
    have HC2 : Hid (∀ W, Below w5.heap.size w5 W → Calls Tryz.prog 12 #[.agg #[.int .i64 k, .int .i64 a, .int .i64 b, .slice a3 n cap3]] W fun e w' => e = .returned (.int .i64 C) ∧ Below W.heap.size W w') := Lib.hid fun W h => hChk.out _ n _ W HN.out
    have HRC : Hid (∀ W, Below w5.heap.size w5 W → Calls Tryz.prog 13 #[.agg #[.int .i64 k, .int .i64 a, .int .i64 b, .slice a0 n cap]] W fun e w' => e = .returned (.int .i64 C) ∧ Below W.heap.size W w') := Lib.hid fun W h => hRChk.out _ n _ W HN.out
    clear hbw q3 H3 hFits hRef hChk hRChk hLt HV HG HM HL
    go_wp2_with fail
    simp only [Act.put]
    refine region_quiet_lit (Below w5.heap.size w5) (by kernel_rfl) (by kernel_rfl) (below_drewN_u (Below.refl _ _) 1) ?_
    repeat (first
      | (go_big_quiet_want; (first
          | refine quiet_load_row 24 (.tmp 2) (by rfl) w.heap.size (by rfl) 24 [.int .i64 k, .int .i64 a, .int .i64 b, .slice a0 n cap] _ HRa.out Tryz.underlying24 rfl (by kernel_rfl) ?_
          | refine quiet_load_row 24 (.tmp 5) (by rfl) w3.heap.size (by rfl) 24 [.int .i64 k, .int .i64 a, .int .i64 b, .slice a3 n cap3] _ HRb.out Tryz.underlying24 rfl (by kernel_rfl) ?_); go_big_quiet_on; simp only [Act.put, List.setIfInBounds_toArray, List.set_cons_zero, List.set_cons_succ])
      | go_big_quiet_step ((first
        | (intro hC; with_reducible rfl)
        | (intro hC; go_at_call 10; (first | (with_reducible refine (HF1.out _ hC).mono ?_) | (with_reducible refine (HF2.out _ hC).mono ?_)); rintro e w'' ⟨rfl, hb⟩; exact ⟨rfl, hC.trans (hb.mono hC.size)⟩)
        | (intro hC; go_at_call 11; (with_reducible refine (HRF.out _ hC).mono ?_); rintro e w'' ⟨rfl, hb⟩; exact ⟨rfl, hC.trans (hb.mono hC.size)⟩)
        | (intro hC; go_at_call 12; (first | (with_reducible refine (HC1.out _ hC).mono ?_) | (with_reducible refine (HC2.out _ hC).mono ?_)); rintro e w'' ⟨rfl, hb⟩; exact ⟨rfl, hC.trans (hb.mono hC.size)⟩)
        | (intro hC; go_at_call 13; (with_reducible refine (HRC.out _ hC).mono ?_); rintro e w'' ⟨rfl, hb⟩; exact ⟨rfl, hC.trans (hb.mono hC.size)⟩))))
    refine wpQuiet_nil ?_
    intro w6 hw6
    go_wp2_with fail
    go_ret
    exact ⟨rfl, HB5.out.trans (hw6.mono HB5.out.size)⟩
end Go.Proofs.YtcecibopanfmgaaGreatDoor

namespace Go.Proofs.YtcecibopanfmgaaGreatDoor.formatFits
open Go.ChangeShapes Go.WideShapes Go.ChangeAt Go.RowKit
open Go.ChangeMaps (open_string shut_string)
set_option linter.unusedVariables false

theorem own : ownKnob Tryz.prog.godebug = none := by kernel_rfl
theorem laidOut : laidOutB Tryz.prog = true := by kernel_rfl

set_option maxRecDepth 100000 in
theorem lifted (os : Os) (started : os.Started) (H : Type) (enc : TypeId × Value → H) :
    ReturnsInHanded {} Tryz.checked os 3 .any (fun w args => (Rows.formatFitsSpec.pre enc Tryz.prog Tryz.f3 Rows.formatFitsRow.domain false w args ∧ laidMetH Tryz.prog Rows.formatFitsRow.laid w) ∧ sizedMet enc Tryz.prog Tryz.f3 (OpenSpec.ofChange Rows.formatFitsSpec) false w args) (Rows.formatFitsSpec.post enc Tryz.prog Tryz.f3 false true false false) := by
  refine returns_shaped_and (C := Tryz.checked) (X := fun w _ => laidMetH Tryz.prog Rows.formatFitsRow.laid w) (fun _ _ _ hh h => h.of_heap hh) own started (by kernel_rfl) Tryz.func3
    (ChangeSpec.witness_shaped (enc := enc) (C := Tryz.checked) (os := os) (X := fun w _ => laidMetH Tryz.prog Rows.formatFitsRow.laid w) false (World.laidAll Tryz.prog os Rows.formatFitsRow.laid) #[.agg #[.int .i64 0, .int .i64 0, .int .i64 0, .slice none 0 0], .string ByteArray.empty] 8 (World.laidAll_os _ _ _) (World.shaped_of_ZipB (by kernel_rfl) (by kernel_rfl)) (by kernel_rfl) (by kernel_rfl) (by kernel_rfl) (by rw [MakeChecks.laidMetH_plain _ _ _ (by kernel_rfl)]; exact laidMet_laidAll _ (by kernel_rfl) (by kernel_rfl))) ?_
  intro W base args ds gs before hval0 hW hcnd hsz0 hX1 hX2
  have hsz : (DataW.weightsEach Tryz.prog (Tryz.f3.params.toList ++ Rows.formatFitsSpec.plain.varTypes Tryz.prog) (ds ++ gs)).all (· ≤ reachBytes) = true := hsz0
  have hval : ∀ (j : Nat) t v, Tryz.f3.params[j]? = some t → args[j]? = some v → Value.okWide Tryz.prog W .any base t v := hval0
  have hW' := hW
  obtain ⟨p, q, hA0, hV, rfl, hfz, hnd⟩ := hW
  have hA : DataW.TrodAll enc Tryz.prog W 0 (fun _ => true) true Tryz.f3.params.toList args.toList ds p := hA0
  rw [Tryz.params3] at hA hval hsz
  obtain ⟨v0, vs0, d0, ds0, p0, q0, hargs, rfl, rfl, h0, r0⟩ := trodAll_cons hA
  obtain ⟨v1, vs1, d1, ds1, p1, q1, rfl, rfl, rfl, h1, r1⟩ := trodAll_cons r0
  obtain ⟨rfl, rfl, rfl⟩ := trodAll_nil r1
  obtain rfl : args = #[v0, v1] := by cases args; simp_all
  obtain ⟨rfl, rfl⟩ := trodVars_none hV
  have k0 := h0
  have lt0 : ∀ x ∈ p0, x.block < W.heap.size := by obtain ⟨m, hm⟩ := k0; exact DataW.trod_lt m _ _ _ hm
  obtain ⟨z0, u0, rfl, o0, w0, n0⟩ := rule_open (hval 0 24 v0 rfl rfl) h0
  obtain ⟨a1, rfl, rfl, rfl, m1⟩ := open_string Tryz.underlying9 (hval 1 9 v1 rfl rfl) h1
  have w1 : a1.size ≤ 140737488355328 := by
    have h47 := reachBytes_lt
    have hh := sized_string hsz (j := 1) (t := 9) rfl rfl
    rw [Array.length_toList] at hh
    exact Nat.le_of_lt (Nat.lt_of_le_of_lt hh h47)
  clear hA0 hval0 hsz hsz0
  simp only [List.append_nil] at hW'
  refine (FormatFits_walk z0 u0 a1 W o0 w0 n0 w1 (G_of_laid8 hX1) (M_of_shaped hX2)).mono fun e W' ⟨he, bel⟩ => ?_
  subst he
  exact ⟨_, rfl, _, _, _, [], _, [], hW', trodAll_mk1 (shut_bool Tryz.underlying4 _), (trodAll_cons_mk (Below.trod laidOut (by kernel_rfl) (of_decide_eq_true (by kernel_rfl)) k0 bel lt0) (trodAll_cons_mk (shut_string Tryz.underlying9 m1) trodAll_mk0)), rfl, bel.frame _, fun h => by cases h⟩

set_option maxHeartbeats 4000000 in
set_option maxRecDepth 100000 in
theorem closed : joinedFacts Tryz.prog 3 Tryz.f3 Rows.formatFitsSpec Rows.formatFitsRow = true := by
  unfold joinedFacts
  simp only [Bool.and_eq_true]
  repeat' apply And.intro
  all_goals as_aux_lemma => kernel_rfl

set_option maxHeartbeats 4000000 in
theorem over : Rows.formatFitsRow.holds Tryz.pinned (OpenSpec.ofChange Rows.formatFitsSpec) :=
  OpenClaim.holds_of_wide 3 Tryz.f3 rfl rfl rfl rfl rfl rfl rfl ⟨rfl, rfl, rfl, rfl, rfl⟩ rfl rfl rfl rfl rfl (by kernel_rfl) Tryz.func3 closed
    (of_decide_eq_true (by kernel_rfl)) (by unfold Func.isWrapper; first | (rw [if_pos (by decide +kernel)]; kernel_rfl) | (rw [if_neg (by decide +kernel)]; exact ⟨rfl, rfl⟩))
    (fun os started H enc _ => lifted os started H enc)

set_option maxHeartbeats 4000000 in
theorem proved : Rows.FormatFitsCardSaid :=
  Claim7.holds_tied_plain_at .later [] [.data, .data, .data, .data, .sentinel, .sentinel, .data, .pinned] true (true, "35c50199adcd6ca2ac707b8a4feec68877a7f113ee6d11511540fa72dc00b5fe") true
    over (fun _ h => by cases h) (by kernel_rfl) (fun _ h => by cases h) formatFits_row_tie rfl ⟨rfl, rfl⟩ (by kernel_rfl) rfl
    (fun f fn hf hfn => by
      obtain rfl : f = 3 := Option.some.inj ((show Tryz.prog.funcNamed "cashier/cashierlaw14.FormatFits" = some 3 by kernel_rfl).symm.trans hf) |>.symm
      obtain rfl : fn = Tryz.f3 := (Option.some.inj (Tryz.func3.symm.trans hfn)).symm
      exact ⟨by kernel_rfl, fun j t ht => by
        rw [Tryz.params3] at ht
        have hm : t ∈ [24, 9] := by simpa using Array.mem_of_getElem? ht
        have hall : ([24, 9].all fun u => !Tryz.prog.wantsStandIn u) = true := by kernel_rfl
        exact (show Tryz.prog.wantsStandIn t = false by simpa using List.all_eq_true.1 hall t hm)⟩)
    (by kernel_rfl)

end Go.Proofs.YtcecibopanfmgaaGreatDoor.formatFits
