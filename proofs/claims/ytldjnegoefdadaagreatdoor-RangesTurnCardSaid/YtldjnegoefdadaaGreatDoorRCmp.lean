/- The contracts of ranges.Cmp and of the document's Cmp. -/
import Derived.Test.YtldjnegoefdadaaGreatDoorRPlain
import Derived.Test.YtldjnegoefdadaaGreatDoorDSmall
import Derived.Test.YtldjnegoefdadaaGreatDoorShelfRc
import Derived.Deep.DeepCutAuto
namespace Go.Proofs.YtldjnegoefdadaaGreatDoor
open Go.RowKit
set_option linter.unusedVariables false

theorem cmpB_cons (x y : UInt8) (a b : List UInt8) : Lib.compareBytes (x :: a) (y :: b) = if x < y then -1 else if y < x then 1 else Lib.compareBytes a b := rfl
theorem bless_cmp : ∀ a b : List UInt8, Op.bytesLess a b = decide (Lib.compareBytes a b < 0)
  | [], [] => by simp [Op.bytesLess, Lib.compareBytes]
  | [], _ :: _ => by simp [Op.bytesLess, Lib.compareBytes]
  | _ :: _, [] => by simp [Op.bytesLess, Lib.compareBytes]
  | x :: a, y :: b => by
    have ih := bless_cmp a b
    rw [Op.bytesLess, ih, cmpB_cons]
    by_cases h1 : x < y
    · simp [h1]
    · by_cases h2 : y < x
      · have h3 : ¬ x = y := fun e => by rw [e] at h2; exact absurd h2 (UInt8.lt_irrefl _)
        simp [h1, h2, h3]
      · have h3 : x = y := UInt8.toNat_inj.1 (by rw [UInt8.lt_iff_toNat_lt] at h1 h2; omega)
        simp [h3]
theorem cmpB_eq : ∀ a b : List UInt8, Lib.compareBytes a b = 0 ↔ a = b
  | [], [] => by simp [Lib.compareBytes]
  | [], _ :: _ => by simp [Lib.compareBytes]
  | _ :: _, [] => by simp [Lib.compareBytes]
  | x :: a, y :: b => by
    have ih := cmpB_eq a b
    rw [cmpB_cons]
    by_cases h1 : x < y
    · have h3 : ¬ x = y := fun e => by rw [e] at h1; exact absurd h1 (UInt8.lt_irrefl _)
      simp [h1, h3]
    · by_cases h2 : y < x
      · have h3 : ¬ x = y := fun e => by rw [e] at h2; exact absurd h2 (UInt8.lt_irrefl _)
        simp [h1, h2, h3]
      · have h3 : x = y := UInt8.toNat_inj.1 (by rw [UInt8.lt_iff_toNat_lt] at h1 h2; omega)
        simp [h3, ih]
theorem cmpB_neg : ∀ a b : List UInt8, Lib.compareBytes a b = - Lib.compareBytes b a
  | [], [] => by decide
  | [], _ :: _ => by simp [Lib.compareBytes]
  | _ :: _, [] => by simp [Lib.compareBytes]
  | x :: a, y :: b => by
    have ih := cmpB_neg a b
    rw [cmpB_cons, cmpB_cons]
    by_cases h1 : x < y
    · have h2 : ¬ y < x := by rw [UInt8.lt_iff_toNat_lt] at h1 ⊢; omega
      simp [h1, h2]
    · by_cases h2 : y < x
      · simp [h1, h2]
      · simp [h1, h2, ih]

set_option maxHeartbeats 1000000 in
theorem Or2_any (g : Nat) (p q : Int) (w : World) (hp : -1 ≤ p ∧ p ≤ 1) (hq : -1 ≤ q ∧ q ≤ 1) (h0 : w.cell? ⟨g, 0, none⟩ = some (.int .i64 p)) (h1 : w.cell? ⟨g, 1, none⟩ = some (.int .i64 q)) :
    Calls Tryz.prog 80 #[.slice (some ⟨g, 0, none⟩) 2 2] w fun e w' => e = .returned (.int .i64 (if p = 0 then q else p)) ∧ w = w' := by
  obtain ⟨R, hR⟩ : ∃ R, (if p = 0 then q else p) = R := ⟨_, rfl⟩
  rw [hR]
  have HR := Lib.hid hR
  clear hR
  obtain ⟨p1, p2⟩ := hp
  obtain ⟨q1, q2⟩ := hq
  go_enter Tryz.func80, Tryz.ntmps80
  go_wp2
  go_loop [8] (fun i => ∃ k : Nat, k ≤ 2 ∧ i = .int .i64 k ∧ Hid ((1 ≤ k → p = 0) ∧ (2 ≤ k → q = 0))) (fun i => 2 - (intOf i).toNat)
  case atStart => exact ⟨0, by omega, rfl, Lib.hid ⟨fun h => by omega, fun h => by omega⟩⟩
  case round =>
    obtain ⟨k, hk, rfl, HK⟩ := hrel
    rcases (by omega : k = 0 ∨ k = 1 ∨ k = 2) with rfl | rfl | rfl
    · by_cases hz : p = 0
      · have HN : Hid ((1 ≤ 1 → p = 0) ∧ (2 ≤ 1 → q = 0)) := Lib.hid ⟨fun _ => hz, fun h => by omega⟩
        have hb : (p != 0) = false := by simp [hz]
        clear hz
        go_wp2
        go_round
        case rel => exact ⟨1, by omega, rfl, HN⟩
        case measure => simp [intOf]
      · have hb : (p != 0) = true := by simp [hz]
        have HE : Hid (p = R) := Lib.hid (by rw [← HR.out, if_neg hz])
        clear hz
        go_wp2
        go_ret
        exact ⟨ret_int_d HE.out, rfl⟩
    · have hz := HK.out.1 (by omega)
      have HE : Hid (q = R) := Lib.hid (by rw [← HR.out, if_pos hz])
      by_cases hq0 : q = 0
      · have HN : Hid ((1 ≤ 2 → p = 0) ∧ (2 ≤ 2 → q = 0)) := Lib.hid ⟨fun _ => hz, fun _ => hq0⟩
        have hb : (q != 0) = false := by simp [hq0]
        clear hz hq0
        go_wp2
        go_round
        case rel => exact ⟨2, by omega, rfl, HN⟩
        case measure => simp [intOf]
      · have hb : (q != 0) = true := by simp [hq0]
        clear hz hq0
        go_wp2
        go_ret
        exact ⟨ret_int_d HE.out, rfl⟩
    · have HE : Hid (R = 0) := Lib.hid (by rw [← HR.out, if_pos (HK.out.1 (by omega)), HK.out.2 (by omega)])
      go_wp2
      go_ret
      exact ⟨ret_int_d HE.out.symm, rfl⟩

theorem cmpC_or (a b : List UInt8) : cmpC a b = if Lib.compareInt a.length b.length = 0 then Lib.compareBytes a b else Lib.compareInt a.length b.length := by
  unfold cmpC Lib.compareInt
  by_cases h1 : a.length < b.length
  · rw [if_pos h1, if_pos (show (a.length : Int) < b.length by omega)]; rfl
  · rw [if_neg h1, if_neg (show ¬ (a.length : Int) < b.length by omega)]
    by_cases h2 : b.length < a.length
    · rw [if_pos h2, if_pos (show (a.length : Int) > b.length by omega)]; rfl
    · rw [if_neg h2, if_neg (show ¬ (a.length : Int) > b.length by omega)]; rfl

set_option maxRecDepth 4000 in
set_option maxHeartbeats 1000000 in
theorem RCmp_any (a b : ByteArray) (ha : a.size ≤ 1000000) (hb : b.size ≤ 1000000) (w : World) :
    Calls Tryz.prog 58 #[.string a, .string b] w fun e w' => e = .returned (.int .i64 (cmpC a.data.toList b.data.toList)) ∧ Below w.heap.size w w' := by
  have hla : a.data.toList.length = a.size := by simp
  have hlb : b.data.toList.length = b.size := by simp
  have e := cmpC_or a.data.toList b.data.toList
  rw [hla, hlb] at e
  have hr := cmpB_range a.data.toList b.data.toList
  have C1 := Lib.hid (fun W => Tryz.cmp_Compare_int (a.size : Int) (b.size : Int) W)
  have C2 := Lib.hid (fun W => Tryz.strings_Compare a b W)
  have hr1 : -1 ≤ Lib.compareInt (a.size : Int) (b.size : Int) ∧ Lib.compareInt (a.size : Int) (b.size : Int) ≤ 1 := by
    unfold Lib.compareInt
    repeat' split
    all_goals omega
  obtain ⟨x, hx⟩ : ∃ x, Lib.compareInt (a.size : Int) (b.size : Int) = x := ⟨_, rfl⟩
  obtain ⟨y, hy⟩ : ∃ y, Lib.compareBytes a.data.toList b.data.toList = y := ⟨_, rfl⟩
  rw [hx] at e C1 hr1
  rw [hy] at e C2 hr
  rw [e]
  have CO := Lib.hid (fun g W h0 h1 => Or2_any g x y W hr1 hr h0 h1)
  obtain ⟨R, hR⟩ : ∃ R, (if x = 0 then y else x) = R := ⟨_, rfl⟩
  rw [hR] at CO ⊢
  clear hR
  clear hx hy e hla hlb
  go_enter Tryz.func58, Tryz.ntmps58
  go_wp2_with fail
  refine (C1.out _).mono ?_
  rintro e w1 ⟨rfl, h1⟩
  subst h1
  go_wp2_with fail
  refine (C2.out _).mono ?_
  rintro e w2 ⟨rfl, h2⟩
  subst h2
  go_wp2_with fail
  have hrow := Row.new w2 3 [.int .i64 x, .int .i64 y]
  refine (CO.out _ _ (hrow.cell 0) (hrow.cell 1)).mono ?_
  rintro e w3 ⟨rfl, rfl⟩
  go_wp2
  go_ret
  exact ⟨rfl, (Below.refl _ _).alloc (Nat.le_refl _) _⟩

theorem trimZ_hit {c : UInt8} {r : List UInt8} (h : c = 48) : trimZ (c :: r) = trimZ r := by rw [trimZ, if_pos h]
theorem trimZ_miss {c : UInt8} {r : List UInt8} (h : c ≠ 48) : trimZ (c :: r) = c :: r := by rw [trimZ, if_neg h]
theorem cons_of (s : ByteArray) (h : 0 < s.size) : s.data.toList = s[0] :: (s.extract 1 s.size).data.toList := by
  have hl : s.data.toList.length = s.size := by simp
  have h1 : s.data.toList = s.data.toList.drop 0 := rfl
  rw [h1, List.drop_eq_getElem_cons (by omega), ByteArray.data_extract, Array.toList_extract, List.extract_eq_take_drop, List.take_of_length_le (by rw [List.length_drop]; omega)]
  rfl

set_option maxRecDepth 4000 in
set_option maxHeartbeats 2000000 in
/-- The document's Cmp. -/
theorem refCmp3_any (a b : ByteArray) (ha : a.size ≤ 1000000) (hb : b.size ≤ 1000000) (w : World) :
    Calls Tryz.prog 68 #[.string a, .string b] w fun e w' => e = .returned (.int .i64 (cmpC (trimZ a.data.toList) (trimZ b.data.toList))) ∧ w = w' := by
  obtain ⟨A, hA⟩ : ∃ A, trimZ a.data.toList = A := ⟨_, rfl⟩
  obtain ⟨B, hB⟩ : ∃ B, trimZ b.data.toList = B := ⟨_, rfl⟩
  obtain ⟨R, hR⟩ : ∃ R, cmpC A B = R := ⟨_, rfl⟩
  rw [hA, hB, hR]
  have HA := Lib.hid hA
  have HB := Lib.hid hB
  have HR := Lib.hid hR
  clear hA hB hR
  go_enter Tryz.func68, Tryz.ntmps68
  go_wp2
  go_loop [0] (fun s => ∃ x : ByteArray, s = .string x ∧ x.size ≤ 1000000 ∧ Hid (trimZ x.data.toList = A)) (fun s => match s with | .string x => x.size | _ => 0)
  case atStart => exact ⟨a, rfl, ha, HA⟩
  case round =>
    obtain ⟨x, rfl, hx, HX⟩ := hrel
    by_cases h0 : 0 < x.size
    · have hc := cons_of x h0
      have h0I : (0 : Int) < (x.size : Int) := by omega
      by_cases h48 : x[0] = 48
      · have HN : Hid (trimZ (x.extract 1 x.size).data.toList = A) := Lib.hid (by rw [← HX.out, hc, trimZ_hit h48])
        have hbq : (((x[0]).toNat : Int) == 48) = true := by rw [h48]; rfl
        obtain ⟨y, hy⟩ : ∃ y, x.extract 1 x.size = y := ⟨_, rfl⟩
        have hys : y.size < x.size := by rw [← hy, ByteArray.size_extract]; omega
        rw [hy] at HN
        clear hc h48
        go_wp2
        exact ⟨⟨y, rfl, by omega, HN⟩, hys⟩
      · have HXA : Hid (A = x.data.toList) := Lib.hid (by rw [← HX.out, hc, trimZ_miss h48])
        have hbq : (((x[0]).toNat : Int) == 48) = false := by
          rw [beq_eq_false_iff_ne]
          intro h
          exact h48 (UInt8.toNat_inj.1 (by show (x[0]).toNat = 48; omega))
        clear hc h48 HX
        go_wp2
        go_loop [1] (fun s => ∃ y : ByteArray, s = .string y ∧ y.size ≤ 1000000 ∧ Hid (trimZ y.data.toList = B)) (fun s => match s with | .string y => y.size | _ => 0)
        case atStart => exact ⟨b, rfl, hb, HB⟩
        case round =>
          obtain ⟨y, rfl, hy, HY⟩ := hrel
          have hcase : (∃ h : 0 < y.size, y[0] = 48) ∨ (∃ h : 0 < y.size, y[0] ≠ 48) ∨ y.size = 0 := by
            by_cases h : 0 < y.size
            · by_cases h2 : y[0] = 48
              · exact Or.inl ⟨h, h2⟩
              · exact Or.inr (Or.inl ⟨h, h2⟩)
            · exact Or.inr (Or.inr (by omega))
          rcases hcase with ⟨h0, h48⟩ | ⟨h0, h48⟩ | h0
          · have hc := cons_of y h0
            have HN : Hid (trimZ (y.extract 1 y.size).data.toList = B) := Lib.hid (by rw [← HY.out, hc, trimZ_hit h48])
            have hbq : (((y[0]).toNat : Int) == 48) = true := by rw [h48]; rfl
            have h0I : (0 : Int) < (y.size : Int) := by omega
            obtain ⟨z, hz⟩ : ∃ z, y.extract 1 y.size = z := ⟨_, rfl⟩
            have hzs : z.size < y.size := by rw [← hz, ByteArray.size_extract]; omega
            rw [hz] at HN
            clear hc h48
            go_wp2
            exact ⟨⟨z, rfl, by omega, HN⟩, hzs⟩
          · have hc := cons_of y h0
            have HYB : Hid (B = y.data.toList) := Lib.hid (by rw [← HY.out, hc, trimZ_miss h48])
            have hbq : (((y[0]).toNat : Int) == 48) = false := by
              rw [beq_eq_false_iff_ne]
              intro h
              exact h48 (UInt8.toNat_inj.1 (by show (y[0]).toNat = 48; omega))
            have h0I : (0 : Int) < (y.size : Int) := by omega
            clear hc h48 HY
            have hcs : A = x.data.toList := HXA.out
            have hds : B = y.data.toList := HYB.out
            have hlx : x.data.toList.length = x.size := by simp
            have hly : y.data.toList.length = y.size := by simp
            have hRR := HR.out
            rw [hcs, hds] at hRR
            unfold cmpC at hRR
            rw [hlx, hly] at hRR
            have hb1 : Op.bytesLess x.toList y.toList = decide (Lib.compareBytes x.data.toList y.data.toList < 0) := by rw [ByteArray.toList_eq, ByteArray.toList_eq]; exact bless_cmp _ _
            have hb2 : (x.toList == y.toList) = decide (Lib.compareBytes x.data.toList y.data.toList = 0) := by
              rw [ByteArray.toList_eq, ByteArray.toList_eq, Bool.eq_iff_iff, beq_iff_eq, decide_eq_true_eq]
              exact (cmpB_eq _ _).symm
            have hrg := cmpB_range x.data.toList y.data.toList
            obtain ⟨c, hc⟩ : ∃ c, Lib.compareBytes x.data.toList y.data.toList = c := ⟨_, rfl⟩
            rw [hc] at hRR hb1 hb2 hrg
            clear hcs hds hlx hly hc
            by_cases hlt : x.size < y.size
            · rw [if_pos hlt] at hRR
              have HRR := Lib.hid hRR
              have hltI : (x.size : Int) < (y.size : Int) := by omega
              clear hRR hb1 hb2
              go_wp2
              all_goals
                go_ret
                exact ⟨ret_int_d HRR.out, rfl⟩
            · rw [if_neg hlt] at hRR
              by_cases hgt : y.size < x.size
              · rw [if_pos hgt] at hRR
                have HRR := Lib.hid hRR
                have hltI : ¬ (x.size : Int) < (y.size : Int) := by omega
                have hgtI : (y.size : Int) < (x.size : Int) := by omega
                have hneq : ((x.size : Int) == (y.size : Int)) = false := by rw [beq_eq_false_iff_ne]; omega
                clear hRR hb1 hb2
                go_wp2
                all_goals
                  go_ret
                  exact ⟨ret_int_d HRR.out, rfl⟩
              · rw [if_neg hgt] at hRR
                have HRR := Lib.hid hRR
                have hltI : ¬ (x.size : Int) < (y.size : Int) := by omega
                have hgtI : ¬ (y.size : Int) < (x.size : Int) := by omega
                have heq : ((x.size : Int) == (y.size : Int)) = true := by rw [beq_iff_eq]; omega
                rcases (by omega : c = -1 ∨ c = 0 ∨ c = 1) with rfl | rfl | rfl
                all_goals
                  simp only [Int.reduceNeg, Int.reduceLT, Int.reduceEq, decide_true, decide_false] at hb1 hb2
                  clear hRR
                  go_wp2
                  all_goals
                    go_ret
                    exact ⟨ret_int_d HRR.out, rfl⟩
          · have HYB : Hid (B = y.data.toList) := Lib.hid (by
              have hnil : y.data.toList = [] := List.eq_nil_of_length_eq_zero (by rw [show y.data.toList.length = y.size by simp]; exact h0)
              rw [← HY.out, hnil]; rfl)
            have h0I : ¬ (0 : Int) < (y.size : Int) := by omega
            clear h0 HY
            have hcs : A = x.data.toList := HXA.out
            have hds : B = y.data.toList := HYB.out
            have hlx : x.data.toList.length = x.size := by simp
            have hly : y.data.toList.length = y.size := by simp
            have hRR := HR.out
            rw [hcs, hds] at hRR
            unfold cmpC at hRR
            rw [hlx, hly] at hRR
            have hb1 : Op.bytesLess x.toList y.toList = decide (Lib.compareBytes x.data.toList y.data.toList < 0) := by rw [ByteArray.toList_eq, ByteArray.toList_eq]; exact bless_cmp _ _
            have hb2 : (x.toList == y.toList) = decide (Lib.compareBytes x.data.toList y.data.toList = 0) := by
              rw [ByteArray.toList_eq, ByteArray.toList_eq, Bool.eq_iff_iff, beq_iff_eq, decide_eq_true_eq]
              exact (cmpB_eq _ _).symm
            have hrg := cmpB_range x.data.toList y.data.toList
            obtain ⟨c, hc⟩ : ∃ c, Lib.compareBytes x.data.toList y.data.toList = c := ⟨_, rfl⟩
            rw [hc] at hRR hb1 hb2 hrg
            clear hcs hds hlx hly hc
            by_cases hlt : x.size < y.size
            · rw [if_pos hlt] at hRR
              have HRR := Lib.hid hRR
              have hltI : (x.size : Int) < (y.size : Int) := by omega
              clear hRR hb1 hb2
              go_wp2
              all_goals
                go_ret
                exact ⟨ret_int_d HRR.out, rfl⟩
            · rw [if_neg hlt] at hRR
              by_cases hgt : y.size < x.size
              · rw [if_pos hgt] at hRR
                have HRR := Lib.hid hRR
                have hltI : ¬ (x.size : Int) < (y.size : Int) := by omega
                have hgtI : (y.size : Int) < (x.size : Int) := by omega
                have hneq : ((x.size : Int) == (y.size : Int)) = false := by rw [beq_eq_false_iff_ne]; omega
                clear hRR hb1 hb2
                go_wp2
                all_goals
                  go_ret
                  exact ⟨ret_int_d HRR.out, rfl⟩
              · rw [if_neg hgt] at hRR
                have HRR := Lib.hid hRR
                have hltI : ¬ (x.size : Int) < (y.size : Int) := by omega
                have hgtI : ¬ (y.size : Int) < (x.size : Int) := by omega
                have heq : ((x.size : Int) == (y.size : Int)) = true := by rw [beq_iff_eq]; omega
                rcases (by omega : c = -1 ∨ c = 0 ∨ c = 1) with rfl | rfl | rfl
                all_goals
                  simp only [Int.reduceNeg, Int.reduceLT, Int.reduceEq, decide_true, decide_false] at hb1 hb2
                  clear hRR
                  go_wp2
                  all_goals
                    go_ret
                    exact ⟨ret_int_d HRR.out, rfl⟩
    · have HXA : Hid (A = x.data.toList) := Lib.hid (by
        have hnil : x.data.toList = [] := List.eq_nil_of_length_eq_zero (by rw [show x.data.toList.length = x.size by simp]; omega)
        rw [← HX.out, hnil]; rfl)
      clear HX
      go_wp2
      go_loop [1] (fun s => ∃ y : ByteArray, s = .string y ∧ y.size ≤ 1000000 ∧ Hid (trimZ y.data.toList = B)) (fun s => match s with | .string y => y.size | _ => 0)
      case atStart => exact ⟨b, rfl, hb, HB⟩
      case round =>
        obtain ⟨y, rfl, hy, HY⟩ := hrel
        have hcase : (∃ h : 0 < y.size, y[0] = 48) ∨ (∃ h : 0 < y.size, y[0] ≠ 48) ∨ y.size = 0 := by
          by_cases h : 0 < y.size
          · by_cases h2 : y[0] = 48
            · exact Or.inl ⟨h, h2⟩
            · exact Or.inr (Or.inl ⟨h, h2⟩)
          · exact Or.inr (Or.inr (by omega))
        rcases hcase with ⟨h0, h48⟩ | ⟨h0, h48⟩ | h0
        · have hc := cons_of y h0
          have HN : Hid (trimZ (y.extract 1 y.size).data.toList = B) := Lib.hid (by rw [← HY.out, hc, trimZ_hit h48])
          have hbq : (((y[0]).toNat : Int) == 48) = true := by rw [h48]; rfl
          have h0I : (0 : Int) < (y.size : Int) := by omega
          obtain ⟨z, hz⟩ : ∃ z, y.extract 1 y.size = z := ⟨_, rfl⟩
          have hzs : z.size < y.size := by rw [← hz, ByteArray.size_extract]; omega
          rw [hz] at HN
          clear hc h48
          go_wp2
          exact ⟨⟨z, rfl, by omega, HN⟩, hzs⟩
        · have hc := cons_of y h0
          have HYB : Hid (B = y.data.toList) := Lib.hid (by rw [← HY.out, hc, trimZ_miss h48])
          have hbq : (((y[0]).toNat : Int) == 48) = false := by
            rw [beq_eq_false_iff_ne]
            intro h
            exact h48 (UInt8.toNat_inj.1 (by show (y[0]).toNat = 48; omega))
          have h0I : (0 : Int) < (y.size : Int) := by omega
          clear hc h48 HY
          have hcs : A = x.data.toList := HXA.out
          have hds : B = y.data.toList := HYB.out
          have hlx : x.data.toList.length = x.size := by simp
          have hly : y.data.toList.length = y.size := by simp
          have hRR := HR.out
          rw [hcs, hds] at hRR
          unfold cmpC at hRR
          rw [hlx, hly] at hRR
          have hb1 : Op.bytesLess x.toList y.toList = decide (Lib.compareBytes x.data.toList y.data.toList < 0) := by rw [ByteArray.toList_eq, ByteArray.toList_eq]; exact bless_cmp _ _
          have hb2 : (x.toList == y.toList) = decide (Lib.compareBytes x.data.toList y.data.toList = 0) := by
            rw [ByteArray.toList_eq, ByteArray.toList_eq, Bool.eq_iff_iff, beq_iff_eq, decide_eq_true_eq]
            exact (cmpB_eq _ _).symm
          have hrg := cmpB_range x.data.toList y.data.toList
          obtain ⟨c, hc⟩ : ∃ c, Lib.compareBytes x.data.toList y.data.toList = c := ⟨_, rfl⟩
          rw [hc] at hRR hb1 hb2 hrg
          clear hcs hds hlx hly hc
          by_cases hlt : x.size < y.size
          · rw [if_pos hlt] at hRR
            have HRR := Lib.hid hRR
            have hltI : (x.size : Int) < (y.size : Int) := by omega
            clear hRR hb1 hb2
            go_wp2
            all_goals
              go_ret
              exact ⟨ret_int_d HRR.out, rfl⟩
          · rw [if_neg hlt] at hRR
            by_cases hgt : y.size < x.size
            · rw [if_pos hgt] at hRR
              have HRR := Lib.hid hRR
              have hltI : ¬ (x.size : Int) < (y.size : Int) := by omega
              have hgtI : (y.size : Int) < (x.size : Int) := by omega
              have hneq : ((x.size : Int) == (y.size : Int)) = false := by rw [beq_eq_false_iff_ne]; omega
              clear hRR hb1 hb2
              go_wp2
              all_goals
                go_ret
                exact ⟨ret_int_d HRR.out, rfl⟩
            · rw [if_neg hgt] at hRR
              have HRR := Lib.hid hRR
              have hltI : ¬ (x.size : Int) < (y.size : Int) := by omega
              have hgtI : ¬ (y.size : Int) < (x.size : Int) := by omega
              have heq : ((x.size : Int) == (y.size : Int)) = true := by rw [beq_iff_eq]; omega
              rcases (by omega : c = -1 ∨ c = 0 ∨ c = 1) with rfl | rfl | rfl
              all_goals
                simp only [Int.reduceNeg, Int.reduceLT, Int.reduceEq, decide_true, decide_false] at hb1 hb2
                clear hRR
                go_wp2
                all_goals
                  go_ret
                  exact ⟨ret_int_d HRR.out, rfl⟩
        · have HYB : Hid (B = y.data.toList) := Lib.hid (by
            have hnil : y.data.toList = [] := List.eq_nil_of_length_eq_zero (by rw [show y.data.toList.length = y.size by simp]; exact h0)
            rw [← HY.out, hnil]; rfl)
          have h0I : ¬ (0 : Int) < (y.size : Int) := by omega
          clear h0 HY
          have hcs : A = x.data.toList := HXA.out
          have hds : B = y.data.toList := HYB.out
          have hlx : x.data.toList.length = x.size := by simp
          have hly : y.data.toList.length = y.size := by simp
          have hRR := HR.out
          rw [hcs, hds] at hRR
          unfold cmpC at hRR
          rw [hlx, hly] at hRR
          have hb1 : Op.bytesLess x.toList y.toList = decide (Lib.compareBytes x.data.toList y.data.toList < 0) := by rw [ByteArray.toList_eq, ByteArray.toList_eq]; exact bless_cmp _ _
          have hb2 : (x.toList == y.toList) = decide (Lib.compareBytes x.data.toList y.data.toList = 0) := by
            rw [ByteArray.toList_eq, ByteArray.toList_eq, Bool.eq_iff_iff, beq_iff_eq, decide_eq_true_eq]
            exact (cmpB_eq _ _).symm
          have hrg := cmpB_range x.data.toList y.data.toList
          obtain ⟨c, hc⟩ : ∃ c, Lib.compareBytes x.data.toList y.data.toList = c := ⟨_, rfl⟩
          rw [hc] at hRR hb1 hb2 hrg
          clear hcs hds hlx hly hc
          by_cases hlt : x.size < y.size
          · rw [if_pos hlt] at hRR
            have HRR := Lib.hid hRR
            have hltI : (x.size : Int) < (y.size : Int) := by omega
            clear hRR hb1 hb2
            go_wp2
            all_goals
              go_ret
              exact ⟨ret_int_d HRR.out, rfl⟩
          · rw [if_neg hlt] at hRR
            by_cases hgt : y.size < x.size
            · rw [if_pos hgt] at hRR
              have HRR := Lib.hid hRR
              have hltI : ¬ (x.size : Int) < (y.size : Int) := by omega
              have hgtI : (y.size : Int) < (x.size : Int) := by omega
              have hneq : ((x.size : Int) == (y.size : Int)) = false := by rw [beq_eq_false_iff_ne]; omega
              clear hRR hb1 hb2
              go_wp2
              all_goals
                go_ret
                exact ⟨ret_int_d HRR.out, rfl⟩
            · rw [if_neg hgt] at hRR
              have HRR := Lib.hid hRR
              have hltI : ¬ (x.size : Int) < (y.size : Int) := by omega
              have hgtI : ¬ (y.size : Int) < (x.size : Int) := by omega
              have heq : ((x.size : Int) == (y.size : Int)) = true := by rw [beq_iff_eq]; omega
              rcases (by omega : c = -1 ∨ c = 0 ∨ c = 1) with rfl | rfl | rfl
              all_goals
                simp only [Int.reduceNeg, Int.reduceLT, Int.reduceEq, decide_true, decide_false] at hb1 hb2
                clear hRR
                go_wp2
                all_goals
                  go_ret
                  exact ⟨ret_int_d HRR.out, rfl⟩
end Go.Proofs.YtldjnegoefdadaaGreatDoor
