/- The contracts of the document's reading, bit by bit. -/
import Derived.Test.YtdhplohppcndhaaGreatDoorRows
import Derived.WalkKit
import Derived.WalkSpells
import Derived.WalkLawsBesides
import Derived.Lib.Hide
import Derived.Deep.RegionHeld3
import Derived.Test.YtdhplohppcndhaaGreatDoorRefEnc
namespace Go.Proofs.YtdhplohppcndhaaGreatDoor
open Go.RowKit
set_option linter.unusedVariables false

theorem ix_nil (c : UInt8) (l : List UInt8) (j : Nat) (hj : ∀ i, i < j → l[i]? ≠ some c) (hl : l[j]? = some c) : Lib.indexByte l c = j := by
  have hge := Lib.indexByte_ge l c
  rcases (by omega : Lib.indexByte l c = -1 ∨ 0 ≤ Lib.indexByte l c) with h | h
  · exact absurd hl (Lib.indexByte_none h j)
  · obtain ⟨o, ho⟩ := Int.eq_ofNat_of_zero_le h
    obtain ⟨h1, h2⟩ := Lib.indexByte_some ho
    rw [ho]
    have : o = j := by
      rcases Nat.lt_trichotomy o j with h3 | h3 | h3
      · exact absurd h1 (hj o h3)
      · exact h3
      · exact absurd hl (h2 j h3)
    rw [this]

theorem ix_none (c : UInt8) (l : List UInt8) (hj : ∀ i, i < l.length → l[i]? ≠ some c) : Lib.indexByte l c = -1 := by
  have hge := Lib.indexByte_ge l c
  rcases (by omega : Lib.indexByte l c = -1 ∨ 0 ≤ Lib.indexByte l c) with h | h
  · exact h
  · obtain ⟨o, ho⟩ := Int.eq_ofNat_of_zero_le h
    obtain ⟨h1, _⟩ := Lib.indexByte_some ho
    have h2 : o < l.length := by
      rcases Nat.lt_or_ge o l.length with h3 | h3
      · exact h3
      · rw [List.getElem?_eq_none h3] at h1; cases h1
    exact absurd h1 (hj o h2)

set_option maxRecDepth 20000 in
set_option maxHeartbeats 400000 in
theorem refIndex_any (L : ByteArray) (c : UInt8) (w : World) (hs : L.size ≤ 1000) :
    Calls Tryz.prog 42 #[.string L, .int .u8 c.toNat] w fun e w' => e = .returned (.int .i64 (ixI L c)) ∧ w = w' := by
  have hc := UInt8.toNat_lt c
  go_enter Tryz.func42, Tryz.ntmps42
  go_wp2
  go_loop [5] (fun i => ∃ j : Nat, j ≤ L.size ∧ i = .int .i64 j ∧ Hid (∀ i, i < j → L.data.toList[i]? ≠ some c)) (fun i => L.size - (intOf i).toNat)
  case atStart => exact ⟨0, Nat.zero_le _, rfl, fun i hi => by omega⟩
  case round =>
    obtain ⟨j, hj, rfl, HJ⟩ := hrel
    by_cases hlt : j < L.size
    · have hg : L.data.toList[j]? = some L[j] := by
        rw [List.getElem?_eq_getElem (by simpa using hlt)]; rfl
      have HG := Lib.hid hg
      clear hg
      by_cases he : L[j] = c
      · have hb : (((L[j]).toNat : Int) == (c.toNat : Int)) = true := by rw [he]; simp
        have hr : Hid (ixI L c = j) := ix_nil c _ j HJ.out (by rw [HG.out, he])
        clear he
        go_wp2
        go_ret
        exact ⟨ret_int hr.out.symm, rfl⟩
      · have hb : (((L[j]).toNat : Int) == (c.toNat : Int)) = false := by
          rw [beq_eq_false_iff_ne]
          intro h
          apply he
          exact UInt8.toNat_inj.mp (by omega)
        have hnext : Hid (∀ i, i < j + 1 → L.data.toList[i]? ≠ some c) := by
          intro i hi h
          rcases (by omega : i < j ∨ i = j) with h1 | h1
          · exact HJ.out i h1 h
          · subst h1; rw [HG.out] at h; exact he (Option.some.inj h)
        clear he
        go_wp2
        go_round
        case rel => exact ⟨j + 1, by omega, by go_num, hnext⟩
        case measure => simp [intOf]; omega
    · have hr : Hid (ixI L c = -1) := ix_none c _ (fun i hi => HJ.out i (by rw [Array.length_toList] at hi; have : i < L.size := hi; omega))
      go_wp2
      go_ret
      exact ⟨ret_int hr.out.symm, rfl⟩

/-- What holds of the reading bit by bit: of a number X of b bits q bytes are there, c bits are held. -/
def BitSt (X b B : Nat) (w0 : World) (v : Value) (h c q : Nat) (wr : World) : Prop :=
  b = 8 * q + c ∧ c < 8 ∧ h = X % 2 ^ c ∧ wr.ownsRow B 5 1 v q ((putL (X / 2 ^ c) q).map bv) ∧ Below w0.heap.size w0 wr ∧ B ≤ wr.heap.size

theorem BitSt.small {X b B : Nat} {w0 : World} {v : Value} {h c q β : Nat} {wr : World} (H : BitSt X b B w0 v h c q wr) (hβ : β < 2) (hc : c + 1 < 8) : BitSt (2 * X + β) (b + 1) B w0 v (2 * h + β) (c + 1) q wr := by
  obtain ⟨e1, e2, e3, e4, e5, e6⟩ := H
  have p : (2 : Nat) ^ (c + 1) = 2 * 2 ^ c := Nat.pow_succ'
  refine ⟨by omega, hc, ?_, ?_, e5, e6⟩
  · rw [p, Nat.mod_mul, e3]
    have h1 : (2 * X + β) % 2 = β := by omega
    have h2 : (2 * X + β) / 2 = X := by omega
    rw [h1, h2]; omega
  · have h2 : (2 * X + β) / 2 ^ (c + 1) = X / 2 ^ c := by
      rw [p, ← Nat.div_div_eq_div_mul]
      congr 1; omega
    rw [h2]; exact e4

theorem BitSt.byte {X b B : Nat} {w0 : World} {v v' : Value} {h q β : Nat} {wr w3 : World} {cs : Array Value} (H : BitSt X b B w0 v h 7 q wr) (hβ : β < 2) (hw : w0.heap.size ≤ B)
    (hgrow : (wr.alloc (.cells cs 5)).grownBy w3 v.ownBlock)
    (hown : w3.ownsRow B 5 1 v' (q + 1) ((putL (X / 2 ^ 7) q).map bv ++ [.int .u8 (UInt8.ofNat (2 * h + β)).toNat])) : BitSt (2 * X + β) (b + 1) B w0 v' 0 0 (q + 1) w3 := by
  obtain ⟨e1, e2, e3, e4, e5, e6⟩ := H
  have hz : (wr.alloc (.cells cs 5)).heap.size = wr.heap.size + 1 := by simp
  refine ⟨by omega, by omega, by simp [Nat.mod_one], ?_, ?_, ?_⟩
  · have hq : putL ((2 * X + β) / 2 ^ 0) (q + 1) = putL (X / 2 ^ 7) q ++ [UInt8.ofNat (2 * h + β)] := by
      rw [putL, Nat.pow_zero, Nat.div_one]
      have h1 : (2 * X + β) / 256 = X / 2 ^ 7 := by
        have : (2 : Nat) ^ 7 = 128 := by decide
        rw [this]; omega
      have h2 : (2 * X + β) % 256 = 2 * h + β := by
        have : (2 : Nat) ^ 7 = 128 := by decide
        rw [this] at e3; omega
      rw [h1, h2]
    rw [hq, List.map_append]
    exact hown
  · refine (e5.alloc e5.size _).grown hgrow (by rw [hz]; have := e5.size; omega) (fun i e => ?_)
    have := (e4.lt i e).1
    omega
  · have := hgrow.size
    omega

/-- A bit of a letter's number. -/
theorem letter_bits (v k p : Nat) (hp : p < k) : v / 2 ^ (k - (p + 1)) = 2 * (v / 2 ^ (k - p)) + v / 2 ^ (k - 1 - p) % 2 := by
  have e1 : k - (p + 1) = k - 1 - p := by omega
  have e2 : k - p = (k - 1 - p) + 1 := by omega
  rw [e1, e2, Nat.pow_succ, ← Nat.div_div_eq_div_mul]
  omega

/-- A letter that is none, ahead of what fills up: the text is no writing. -/
theorem bad_letter (kind : Nat) (t D : ByteArray) (L : ByteArray) (k : Nat) (hk : k = 4 ∨ k = 6) (hk1 : kind = 1 → k = 6) (hix : ∀ d, d < 2 ^ k → ixI L (L.data.toList.getD d 0) = d) (i m : Nat) (hi : i < m) (hm : m ≤ t.size)
    (hneg : ixI L (t[i]'(by omega)) < 0) (hT : ∀ i, m ≤ i → i < t.size → kind = 1 ∧ t.data.toList.getD i 0 = 61) (hend : m = 0 ∨ kind ≠ 1 ∨ t.data.toList.getD (m - 1) 0 ≠ 61) : encS L k (filB kind) D ≠ t := by
  intro e
  have hl : t.data.toList = encL L k (filB kind) D.data.toList := by rw [← e]; rfl
  have hDl : D.data.toList.length = D.size := by simp
  have hlen : t.size = mOf k D.size + (szA k (filB kind) D.size - mOf k D.size) := by
    have h1 : t.data.toList.length = t.size := by simp
    rw [← h1, hl]
    unfold encL
    rw [List.length_append, List.length_map, encN_length, List.length_replicate, hDl]
  have hge : mOf k D.size ≤ i := by
    rcases Nat.lt_or_ge i (mOf k D.size) with h | h
    · exfalso
      have h2 : i < (encN k D.data.toList).length := by rw [encN_length, hDl]; exact h
      have h3 : t.data.toList[i]? = some (L.data.toList.getD ((encN k D.data.toList)[i]) 0) := by
        rw [hl]
        unfold encL
        rw [List.getElem?_append_left (by rw [List.length_map]; exact h2), List.getElem?_map, List.getElem?_eq_getElem h2]
        rfl
      have h4 : t.data.toList[i]? = some (t[i]'(by omega)) := by
        rw [List.getElem?_eq_getElem (by rw [Array.length_toList]; show i < t.size; omega)]; rfl
      rw [h4] at h3
      have h5 := Option.some.inj h3
      rw [h5, hix _ (encN_lt k _ _ (List.getElem_mem h2))] at hneg
      omega
    · exact h
  have hfill : ∀ j, mOf k D.size ≤ j → j < t.size → t.data.toList.getD j 0 = 61 := by
    intro j h1 h2
    rw [hl]
    unfold encL
    rw [List.getD_eq_getElem?_getD, List.getElem?_append_right (by rw [List.length_map, encN_length, hDl]; exact h1), List.length_map, encN_length, hDl, List.getElem?_replicate, if_pos (by omega)]
    rfl
  rcases hend with h | h | h
  · omega
  · have h0 : szA k (filB kind) D.size ≤ mOf k D.size := by
      have hf : filB kind = false := by unfold filB; rw [decide_eq_false_iff_not]; exact h
      rw [hf]
      rcases hk with e | e
      · subst e; simp only [szA, mOf, Bool.false_and, Bool.false_eq_true, if_false]; omega
      · subst e; simp only [szA, mOf, Bool.false_and, Bool.false_eq_true, if_false]; omega
    omega
  · exact h (hfill (m - 1) (by omega) (by omega))

/-- What fills up is no letter. -/
theorem rest_none {kind_ : Nat} (L t : ByteArray) (m : Nat) (hT : ∀ i, m ≤ i → i < t.size → kind_ = 1 ∧ t.data.toList.getD i 0 = 61) (hf : ixI L 61 < 0) : preN L (t.data.toList.drop m) = [] := by
  rcases Nat.lt_or_ge m t.size with h | h
  · have h1 := (hT m (Nat.le_refl _) h).2
    have hl : m < t.data.toList.length := by rw [Array.length_toList]; exact h
    rw [List.drop_eq_getElem_cons hl]
    have h2 : t.data.toList[m] = 61 := by
      rw [← h1, List.getD_eq_getElem?_getD, List.getElem?_eq_getElem hl]; rfl
    rw [h2, preN, if_neg (by omega)]
  · rw [List.drop_of_length_le (by rw [Array.length_toList]; exact h)]
    rfl

/-- What is read: behind a name, that a walk doesn't look into it. -/
def DecPost (kind : Nat) (t : ByteArray) (e : Ending) : Prop := ∃ (x : ByteArray) (ok : Bool), e = .returned (.tuple #[.string x, .bool ok]) ∧
      Hid ((ok = true → x = decS (letS kind) (bitK kind) t ∧ encS (letS kind) (bitK kind) (filB kind) (decS (letS kind) (bitK kind) t) = t) ∧ (ok = false → encS (letS kind) (bitK kind) (filB kind) (decS (letS kind) (bitK kind) t) ≠ t)) ∧ Hid (kind = 0 → x = if (preN (letS kind) t.data.toList).length = t.size then decS (letS kind) (bitK kind) t else ⟨#[]⟩)


set_option maxRecDepth 20000 in
set_option maxHeartbeats 2000000 in
theorem refDecode_det (kind : Nat) (t : ByteArray) (w : World) (hkd : kind ≤ 2) (hs : t.size ≤ 10000) :
    Calls Tryz.prog 25 #[.int .i64 kind, .string t] w fun e w' => DecPost kind t e ∧ Below w.heap.size w w' := by
  obtain ⟨i0, hi0, hz0, hz1, hz2⟩ := info_parts u8_info
  obtain ⟨L, HL⟩ : ∃ L, Hid (letS kind = L) := ⟨_, Lib.hid rfl⟩
  obtain ⟨k, HK⟩ : ∃ k, Hid (bitK kind = k) := ⟨_, Lib.hid rfl⟩
  have hk46 : k = 4 ∨ k = 6 := by rw [← HK.out]; exact bit_k _
  have HLS : Hid (L.size = 2 ^ k) := by rw [← HL.out, ← HK.out]; exact Lib.hid (let_size _)
  have hk4 : 4 ≤ k := by omega
  have hk6 : k ≤ 6 := by omega
  have hLs : L.size ≤ 1000 := by
    rw [HLS.out]
    exact Nat.le_trans (Nat.pow_le_pow_right (by omega) hk6) (by decide)
  have HK46 := Lib.hid hk46
  clear hk46
  go_enter Tryz.func25, Tryz.ntmps25
  go_wp2_with fail
  refine (refLetters_any kind _ hkd).mono ?_
  rintro e w1 ⟨rfl, rfl⟩
  rw [HL.out]
  go_wp2_with fail
  refine (refBits_any kind _ hkd).mono ?_
  rintro e w1 ⟨rfl, rfl⟩
  rw [HK.out]
  go_wp2_with fail
  go_loop [8] (fun n => ∃ m : Nat, m ≤ t.size ∧ n = .int .i64 m ∧ Hid (∀ i, m ≤ i → i < t.size → kind = 1 ∧ t.data.toList.getD i 0 = 61)) (fun n => (intOf n).toNat)
  case atStart => exact ⟨t.size, Nat.le_refl _, rfl, fun i h1 h2 => by omega⟩
  case round =>
    obtain ⟨m, hm, rfl, HT⟩ := hrel
    by_cases hcont : kind = 1 ∧ 0 < m ∧ t.data.toList.getD (m - 1) 0 = 61
    · obtain ⟨h1, h2, h3⟩ := hcont
      have hb1 : ((kind : Int) == 1) = true := by simp; omega
      have hidx := run_index_str (P := Tryz.prog) 9 t (m - 1) Tryz.underlying9 (by omega)
      rw [h3] at hidx
      have hcast : ((m - 1 : Nat) : Int) = (m : Int) - 1 := by omega
      rw [hcast] at hidx
      have hnext : Hid (∀ i, m - 1 ≤ i → i < t.size → kind = 1 ∧ t.data.toList.getD i 0 = 61) := by
        intro i h4 h5
        rcases (by omega : i = m - 1 ∨ m ≤ i) with h6 | h6
        · subst h6; exact ⟨h1, h3⟩
        · exact HT.out i h6 h5
      have HC := Lib.hid hcast
      clear h1 h3 hcast
      go_wp2_with fail
      go_round
      case rel => exact ⟨m - 1, by omega, by rw [HC.out], hnext⟩
      case measure => simp [intOf]; omega
    · have hm0 : m ≤ 10000 := by omega
      rcases (by
        by_cases h1 : kind = 1
        · rcases Nat.eq_zero_or_pos m with h | h
          · exact .inr (.inl ⟨h1, h⟩)
          · exact .inr (.inr ⟨h1, h, fun e => hcont ⟨h1, h, e⟩⟩)
        · exact .inl h1 : kind ≠ 1 ∨ (kind = 1 ∧ m = 0) ∨ (kind = 1 ∧ 0 < m ∧ t.data.toList.getD (m - 1) 0 ≠ 61)) with h | ⟨h1, h⟩ | ⟨h1, h2, h3⟩
      case' inl =>
        have hb1 : ((kind : Int) == 1) = false := by simp; omega
        have HEND : Hid (m = 0 ∨ kind ≠ 1 ∨ t.data.toList.getD (m - 1) 0 ≠ 61) := .inr (.inl h)
        clear h hcont
        go_wp2_with fail
      case' inr.inl =>
        have hle : m ≤ 0 := by omega
        have hb1 : ((kind : Int) == 1) = true := by simp; omega
        have hd0 : decide (0 < m) = false := by simp; omega
        have HEND : Hid (m = 0 ∨ kind ≠ 1 ∨ t.data.toList.getD (m - 1) 0 ≠ 61) := .inl h
        clear h h1 hcont
        go_wp2_with fail
        clear hle hd0
      case' inr.inr =>
        have hb1 : ((kind : Int) == 1) = true := by simp; omega
        have hidx := run_index_str (P := Tryz.prog) 9 t (m - 1) Tryz.underlying9 (by omega)
        obtain ⟨y, HY⟩ : ∃ y, Hid (t.data.toList.getD (m - 1) 0 = y) := ⟨_, Lib.hid rfl⟩
        rw [HY.out] at hidx h3
        have hcast : ((m - 1 : Nat) : Int) = (m : Int) - 1 := by omega
        rw [hcast] at hidx
        have hb2 : ((y.toNat : Int) == 61) = false := by
          rw [beq_eq_false_iff_ne]
          intro e
          apply h3
          exact UInt8.toNat_inj.mp (by show y.toNat = 61; omega)
        have HEND : Hid (m = 0 ∨ kind ≠ 1 ∨ t.data.toList.getD (m - 1) 0 ≠ 61) := .inr (.inr (by rw [HY.out]; exact h3))
        clear h1 h3 hcont hcast
        go_wp2_with fail
        clear hidx hb2
      all_goals
        go_loopw [9, 10, 11, 12] (fun v h c i wr => ∃ (i' h' c' q : Nat) (ds : List Nat), i' ≤ m ∧ i = .int .i64 i' ∧ h = .int .i64 h' ∧ c = .int .i64 c' ∧ Hid (ds.length = i' ∧ (∀ d ∈ ds, d < 2 ^ k) ∧ preN L t.data.toList = ds ++ preN L (t.data.toList.drop i') ∧ BitSt (ug (2 ^ k) ds) (k * i') w.heap.size w v h' c' q wr))
          (fun _ _ _ i _ => m - (intOf i).toNat)
        case atStart => exact ⟨0, 0, 0, 0, [], Nat.zero_le _, rfl, rfl, rfl, by exact Lib.hid ⟨rfl, by simp, by simp, by omega, by omega, by simp [ug], World.ownsRow_nil _ _ _ _, Below.refl _ _, Nat.le_refl _⟩⟩
        case round =>
          obtain ⟨i, h, c, q, ds, hi, rfl, rfl, rfl, HST⟩ := hrel
          by_cases hlt : i < m
          · have hit : i < t.size := by omega
            by_cases hneg : ixI L t[i] < 0
            · have HPL : Hid ((preN L t.data.toList).length = i) := by
                show _ = _
                rw [HST.out.2.2.1, List.length_append, HST.out.1, drop_cons t i hit, preN, if_neg (by omega), List.length_nil, Nat.add_zero]
              have cI : Hid (∀ W : World, Calls Tryz.prog 42 #[.string L, .int .u8 (t[i]).toNat] W fun e w' => e = .returned (.int .i64 (ixI L t[i])) ∧ W = w') := fun W => refIndex_any L t[i] W hLs
              have HBAD : Hid (encS L k (filB kind) (decS L k t) ≠ t) := bad_letter kind t (decS L k t) L k (HK46.out) (by intro h1; rw [← HK.out]; unfold bitK; rw [if_neg (by omega)]) (fun d hd => by rw [← HL.out]; exact let_ix kind d (by rw [HK.out]; exact hd)) i m hlt hm hneg HT.out HEND.out
              go_wp2_with fail
              refine (cI.out _).mono ?_
              rintro e w3 ⟨rfl, rfl⟩
              go_wp2_with fail
              go_ret2
              refine ⟨?_, HST.out.2.2.2.2.2.2.2.1⟩
              unfold DecPost
              refine ⟨⟨#[]⟩, false, rfl, ?_, ?_⟩
              · rw [HL.out, HK.out]
                exact Lib.hid ⟨(fun h => by cases h), fun _ => HBAD.out⟩
              · rw [HL.out, HK.out]
                exact Lib.hid (fun _ => by rw [if_neg (by rw [HPL.out]; omega)])
            · obtain ⟨d, hd⟩ := Int.eq_ofNat_of_zero_le (Int.not_lt.mp hneg)
              have hdl : d < 2 ^ k := by have := ix_lt hd; rwa [HLS.out] at this
              have hd64 : d < 64 := Nat.lt_of_lt_of_le hdl (Nat.le_trans (Nat.pow_le_pow_right (by omega) hk6) (by decide))
              have cI : Hid (∀ W : World, Calls Tryz.prog 42 #[.string L, .int .u8 (t[i]).toNat] W fun e w' => e = .returned (.int .i64 (d : Int)) ∧ W = w') := fun W => by
                rw [← hd]; exact refIndex_any L t[i] W hLs
              have hpre2 : Hid ((ds ++ [d]).length = i + 1 ∧ (∀ x ∈ ds ++ [d], x < 2 ^ k) ∧ preN L t.data.toList = (ds ++ [d]) ++ preN L (t.data.toList.drop (i + 1))) := by
                refine ⟨by rw [List.length_append, HST.out.1]; rfl, fun x hx => ?_, ?_⟩
                · rcases List.mem_append.mp hx with h1 | h1
                  · exact HST.out.2.1 x h1
                  · rw [List.mem_singleton.mp h1]; exact hdl
                · rw [HST.out.2.2.1, drop_cons t i hit, preN, if_pos (by omega), hd, List.append_assoc]; rfl
              have HDL := Lib.hid hdl
              clear hneg hd hdl
              go_wp2_with fail
              refine (cI.out _).mono ?_
              rintro e w3 ⟨rfl, rfl⟩
              go_wp2_with fail
              go_loopw [9, 10, 11, 14] (fun v h c z wr => ∃ (p h' c' q : Nat) (z' : Int), p ≤ k ∧ z = .int .i64 z' ∧ h = .int .i64 h' ∧ c = .int .i64 c' ∧ -1 ≤ z' ∧ z' ≤ 5 ∧ Hid (z' = (k : Int) - 1 - (p : Int) ∧ BitSt (ug (2 ^ k) ds * 2 ^ p + d / 2 ^ (k - p)) (k * i + p) w.heap.size w v h' c' q wr))
                (fun _ _ _ z _ => (intOf z + 1).toNat)
              case atStart =>
                refine ⟨0, h, c, q, (k : Int) - 1, Nat.zero_le _, rfl, rfl, rfl, by omega, by omega, ?_⟩
                refine Lib.hid ⟨by omega, ?_⟩
                have h1 : d / 2 ^ (k - 0) = 0 := Nat.div_eq_of_lt HDL.out
                rw [h1, Nat.pow_zero, Nat.mul_one, Nat.add_zero, Nat.add_zero]
                exact HST.out.2.2.2
              case round =>
                obtain ⟨p, h5, c5, q5, z, hp, rfl, rfl, rfl, hz1', hz2', HB5⟩ := hrel
                have hc8 : c5 < 8 := HB5.out.2.2.1
                have hh : h5 < 128 := by
                  rw [HB5.out.2.2.2.1]
                  exact Nat.lt_of_lt_of_le (Nat.mod_lt _ (Nat.pow_pos (by omega))) (Nat.le_trans (Nat.pow_le_pow_right (by omega) (by omega : c5 ≤ 7)) (by decide))
                by_cases hpk : p < k
                · obtain ⟨zn, hzn⟩ := Int.eq_ofNat_of_zero_le (a := z) (by have := HB5.out.1; omega)
                  subst hzn
                  have HZ : Hid (zn = k - 1 - p) := by have := HB5.out.1; exact Lib.hid (by omega)
                  go_wp2_with fail
                  go_loop [15, 16] (fun v x => ∃ x' : Nat, x' ≤ zn ∧ x = .int .i64 x' ∧ v = .int .i64 ((d / 2 ^ x' : Nat) : Int)) (fun _ x => zn - (intOf x).toNat)
                  case atStart => exact ⟨0, Nat.zero_le _, rfl, by simp⟩
                  case round =>
                    obtain ⟨x, hx, rfl, rfl⟩ := hrel
                    obtain ⟨V, HV⟩ : ∃ V, Hid (d / 2 ^ x = V) := ⟨_, Lib.hid rfl⟩
                    have hV : V < 64 := by rw [← HV.out]; exact Nat.lt_of_le_of_lt (Nat.div_le_self _ _) hd64
                    rw [HV.out]
                    have HVN : Hid (((d / 2 ^ (x + 1) : Nat) : Int) = (V : Int) / 2) := by
                      show _ = _
                      rw [Nat.pow_succ, ← Nat.div_div_eq_div_mul, HV.out]; simp
                    by_cases hx2 : x < zn
                    · go_wp2_with fail
                      go_round
                      case rel => exact ⟨x + 1, by omega, by go_num, by rw [HVN.out]⟩
                      case measure => simp [intOf]; omega
                    · have HXZ : Hid (x = zn) := Lib.hid (by omega)
                      have hβ : V % 2 < 2 := Nat.mod_lt _ (by omega)
                      have hX : Hid (2 * (ug (2 ^ k) ds * 2 ^ p + d / 2 ^ (k - p)) + V % 2 = ug (2 ^ k) ds * 2 ^ (p + 1) + d / 2 ^ (k - (p + 1))) := by
                        show _ = _
                        rw [letter_bits d k p hpk, ← HZ.out, ← HXZ.out, HV.out, Nat.pow_succ]
                        rw [← Nat.mul_assoc, Nat.mul_add, Nat.mul_comm 2 (ug (2 ^ k) ds * 2 ^ p)]
                        omega
                      have HBS := HB5.out.2
                      obtain ⟨W2, HW2⟩ : ∃ W2, Hid (V % 2 = W2) := ⟨_, Lib.hid rfl⟩
                      rw [HW2.out] at hβ hX
                      have hWi : ((V : Int) % 2) = (W2 : Int) := by rw [← HW2.out]; simp
                      have HWI := Lib.hid hWi
                      have HX2 := Lib.hid hX.out
                      clear hWi
                      by_cases hc7 : c5 = 7
                      · have hcb : (((c5 : Int) + 1) == 8) = true := by rw [beq_iff_eq]; omega
                        have HBS7 : Hid (BitSt (ug (2 ^ k) ds * 2 ^ p + d / 2 ^ (k - p)) (k * i + p) w.heap.size w u9 h5 7 q5 wr) := by
                          rw [← hc7]; exact Lib.hid HBS
                        obtain ⟨E, HE⟩ : ∃ E, Hid (2 * h5 + W2 = E) := ⟨_, Lib.hid rfl⟩
                        have hEe : (2 * (h5 : Int) + (W2 : Int)) = (E : Int) := by rw [← HE.out]; simp
                        have hE : E < 256 := by have := HE.out; omega
                        have hEw : IntKind.u8.wrap (E : Int) = (E : Int) := by rw [IntKind.wrap_u8]; omega
                        have hql : q5 ≤ 200000 := by
                          have h1 := HBS.1
                          have h2 : k * i ≤ 6 * i := Nat.mul_le_mul_right _ hk6
                          omega
                        have hWi := HWI.out
                        have hws : w.heap.size ≤ wr.heap.size := HBS.2.2.2.2.2
                        have HWS := Lib.hid hws
                        clear hc7 HBS
                        go_wp2_with (at_builtin; refine wpList_append_own _ rfl (.tmp 73) (.tmp 76) 44 rfl w.heap.size 5 i0 (.int .u8 0) 1 1 Tryz.underlying44 hi0 hz0 hz1 hz2 rfl (by decide) _ _ _ rfl (HBS7.out.2.2.2.1.alloc _) ⟨wr.heap.size, 0, none⟩ 1 1 [.int .u8 (E : Int)] rfl rfl (World.news_of_block (cs := #[.int .u8 (E : Int)]) (t := 5) (fr := (0, 0)) (heap_alloc_new wr _)) (by simp [Value.oneCell']) (by unfold maxLen; omega) (by omega) (by simp; omega) ?_; intro v4 w4 hown4 hg4 hnil4)
                        have hEU : (((UInt8.ofNat (2 * h5 + W2)).toNat : Nat) : Int) = (E : Int) := by
                          rw [HE.out, UInt8.toNat_ofNat', Nat.mod_eq_of_lt hE]
                        have hby := HBS7.out.byte (β := W2) (v' := v4) (w3 := w4) hβ (Nat.le_refl _) hg4 (by rw [hEU]; exact hown4)
                        rw [HX2.out] at hby
                        have HBY := Lib.hid hby
                        clear hby hown4 hg4 hnil4 hEU
                        go_roundw
                        case rel =>
                          refine ⟨p + 1, 0, 0, q5 + 1, (zn : Int) - 1, hpk, rfl, rfl, rfl, by omega, by omega, ?_⟩
                          exact Lib.hid ⟨by have := HZ.out; omega, by rw [← Nat.add_assoc]; exact HBY.out⟩
                        case measure => simp [intOf]
                      · have hWi := HWI.out
                        have hcb : (((c5 : Int) + 1) == 8) = false := by rw [beq_eq_false_iff_ne]; omega
                        have hsm := HBS.small hβ (by omega)
                        rw [HX2.out] at hsm
                        have HS := Lib.hid hsm
                        clear hsm
                        go_wp2_with fail
                        go_roundw
                        case rel =>
                          refine ⟨p + 1, 2 * h5 + W2, c5 + 1, q5, (zn : Int) - 1, hpk, rfl, by go_num, by go_num, by omega, by omega, ?_⟩
                          exact Lib.hid ⟨by have := HZ.out; omega, by rw [← Nat.add_assoc]; exact HS.out⟩
                        case measure => simp [intOf]
                · have hzneg : z < 0 := by have := HB5.out.1; omega
                  have hpk2 : p = k := by omega
                  have HFIN : Hid (BitSt (ug (2 ^ k) (ds ++ [d])) (k * (i + 1)) w.heap.size w u9 h5 c5 q5 wr) := by
                    have h9 := HB5.out.2
                    rw [hpk2, Nat.sub_self, Nat.pow_zero, Nat.div_one] at h9
                    show BitSt _ _ _ _ _ _ _ _ _
                    rw [ug_snoc, Nat.mul_add, Nat.mul_one]
                    exact h9
                  clear hpk2
                  go_wp2_with fail
                  go_roundw
                  case rel => exact ⟨i + 1, h5, c5, q5, ds ++ [d], hlt, by go_num, rfl, rfl, Lib.hid ⟨hpre2.out.1, hpre2.out.2.1, hpre2.out.2.2, HFIN.out⟩⟩
                  case measure => simp [intOf]; omega
          · have him : i = m := by omega
            obtain ⟨a9, cp9, rfl⟩ := own_form HST.out.2.2.2.2.2.2.1
            have hds : preN L t.data.toList = ds := by
              rw [HST.out.2.2.1, him, rest_none L t m HT.out (by rw [← HL.out]; exact let_fill kind), List.append_nil]
            have hdec : decS L k t = ⟨(putL (ug (2 ^ k) ds / 2 ^ c) q).toArray⟩ := by
              unfold decS
              rw [hds]
              congr 2
              unfold decN
              rw [HST.out.1, HST.out.2.2.2.1]
              have h8 := HST.out.2.2.2.2.1
              have e1 : (8 * q + c) % 8 = c := by omega
              have e2 : (8 * q + c) / 8 = q := by omega
              rw [e1, e2]
            have hcv : ∀ mm, (convert 44 9 (.slice a9 q cp9)).run Tryz.prog (wr.drewN mm) = .ok (.string (decS L k t)) (wr.drewN mm) := fun mm => by
              rw [hdec]
              exact own_text (P := Tryz.prog) (w := wr.drewN mm) (base := w.heap.size) HST.out.2.2.2.2.2.2.1 44 9 Tryz.underlying44 Tryz.underlying5 Tryz.underlying9
            obtain ⟨D, HD⟩ : ∃ D, Hid (decS L k t = D) := ⟨_, Lib.hid rfl⟩
            obtain ⟨T2, HT2⟩ : ∃ T2, Hid (encS L k (filB kind) D = T2) := ⟨_, Lib.hid rfl⟩
            have hDs : D.size ≤ 10000 := by
              have h8 := decS_size L k (by omega) t
              rw [HD.out] at h8
              omega
            have cR : Hid (∀ W : World, Calls Tryz.prog 27 #[.int .i64 (kind : Int), .string D] W fun e w' => e = .returned (.string T2) ∧ w' = W) := fun W => by
              have h8 := refEncode_any kind D W hkd (by omega)
              rw [HL.out, HK.out, HT2.out] at h8
              exact h8.mono fun _ _ hh => ⟨hh.1, hh.2.symm⟩
            rw [HD.out] at hcv
            have HCV := Lib.hid hcv
            have HPL : Hid (kind = 0 → (preN L t.data.toList).length = t.size) := fun hk0 => by
              rw [hds, HST.out.1, him]
              refine Nat.le_antisymm hm (Nat.le_of_not_lt fun hlt2 => ?_)
              have := (HT.out m (Nat.le_refl _) hlt2).1
              omega
            clear hds hdec hcv him
            rcases (by
              by_cases h9 : T2 = t
              · exact .inl h9
              · exact .inr h9 : T2 = t ∨ T2 ≠ t) with h9 | h9
            case' inl =>
              have hbq : (T2.toList == t.toList) = true := by rw [h9]; simp
            case' inr =>
              have hbq : (T2.toList == t.toList) = false := by
                rw [beq_eq_false_iff_ne]
                intro e
                apply h9
                rw [ByteArray.toList_eq, ByteArray.toList_eq] at e
                exact ByteArray.ext (Array.ext' e)
            all_goals
              have H9 := Lib.hid h9
              clear h9
              go_wp2_with fail
              have hcv := HCV.out
              have hcv0 := HCV.out 0
              rw [World.drewN_zero] at hcv0
              go_quiet ((go_at_call 27; exact Calls.quiet_of_same (cR.out _)))
              go_wp2_with fail
              go_ret2
              refine ⟨?_, below_drawn HST.out.2.2.2.2.2.2.2.1 _⟩
              unfold DecPost
              refine ⟨D, _, rfl, ?_, ?_⟩
              · rw [HL.out, HK.out, HD.out, HT2.out]
                first
                  | exact Lib.hid ⟨(fun _ => ⟨rfl, H9.out⟩), (fun h => by cases h)⟩
                  | exact Lib.hid ⟨(fun h => by cases h), (fun _ => H9.out)⟩
              · rw [HL.out, HK.out, HD.out]
                exact Lib.hid (fun hk0 => by rw [if_pos (HPL.out hk0)])

theorem refDecode_any (kind : Nat) (t : ByteArray) (w : World) (hkd : kind ≤ 2) (hs : t.size ≤ 10000) :
    Calls Tryz.prog 25 #[.int .i64 kind, .string t] w fun e w' => (∃ (x : ByteArray) (ok : Bool), e = .returned (.tuple #[.string x, .bool ok]) ∧
      Hid ((ok = true → x = decS (letS kind) (bitK kind) t ∧ encS (letS kind) (bitK kind) (filB kind) (decS (letS kind) (bitK kind) t) = t) ∧ (ok = false → encS (letS kind) (bitK kind) (filB kind) (decS (letS kind) (bitK kind) t) ≠ t))) ∧ Below w.heap.size w w' := by
  exact (refDecode_det kind t w hkd hs).mono fun e w' ⟨hp, hb⟩ => by
    unfold DecPost at hp
    obtain ⟨x, ok, he, h1, _⟩ := hp
    exact ⟨⟨x, ok, he, h1⟩, hb⟩
end Go.Proofs.YtdhplohppcndhaaGreatDoor
