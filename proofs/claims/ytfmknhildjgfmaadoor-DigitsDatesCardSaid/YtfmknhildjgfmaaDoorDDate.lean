/- The contract of digits.Date. -/
import Derived.Test.YtfmknhildjgfmaaDoorDDays
import Derived.Test.YtfmknhildjgfmaaDoorRound
namespace Go.Proofs.YtfmknhildjgfmaaDoor
open Go.RowKit
set_option linter.unusedVariables false

/-- The number that a piece of the text spells. -/
def fl (s : ByteArray) (a b : Nat) : Nat := val (s.extract a b).data.toList
def dateBad (y m d h mi se : Nat) : Prop := d < 1 ∨ daysN y m < (d : Int) ∨ 23 < h ∨ 59 < mi ∨ 59 < se
instance (y m d h mi se : Nat) : Decidable (dateBad y m d h mi se) := by unfold dateBad; exact inferInstance
def dateN (s : ByteArray) : Int :=
  if s.size = 14 ∧ isD s = true then (if dateBad (fl s 0 4) (fl s 4 6) (fl s 6 8) (fl s 8 10) (fl s 10 12) (fl s 12 14) then 7 else 0) else 4

theorem isD_part {s : ByteArray} (hd : isD s = true) {a b : Nat} (h1 : a < b) (h2 : b ≤ s.size) : isD (s.extract a b) = true := by
  refine (isD_iff _).2 ⟨by rw [ByteArray.size_extract]; omega, fun c hc => ((isD_iff s).1 hd).2 c ?_⟩
  rw [ByteArray.data_extract, Array.toList_extract, List.extract_eq_take_drop] at hc
  exact List.mem_of_mem_drop (List.mem_of_mem_take hc)
theorem fl_le {s : ByteArray} (hd : isD s = true) {a b : Nat} (h1 : a < b) (h2 : b ≤ s.size) (h4 : b - a ≤ 4) : fl s a b ≤ 9999 :=
  (parseB_ok (isD_part hd h1 h2) (by rw [ByteArray.size_extract]; omega)).2
theorem few_part {s : ByteArray} (hd : isD s = true) {a b : Nat} (h1 : a < b) (h2 : b ≤ s.size) (h4 : b - a ≤ 4) (w : World) :
    Calls Tryd.prog 19 #[.string (s.extract a b)] w fun e w' => e = .returned (.int .i64 (fl s a b : Nat)) ∧ Below w.heap.size w w' :=
  few_any (s.extract a b) w (isD_part hd h1 h2) (by rw [ByteArray.size_extract]; omega)

theorem below_drewN {B : Nat} {a w : World} (h : Below B a w) (n : Nat) : Below B a (w.drewN n) := ⟨h.os, h.tape, h.output, h.size, h.block⟩

theorem below6 {A B C D E F G : World} (h1 : Below A.heap.size A B) (h2 : Below B.heap.size B C) (h3 : Below C.heap.size C D) (h4 : Below D.heap.size D E) (h5 : Below E.heap.size E F) (h6 : Below F.heap.size F G) : Below A.heap.size A G := by
  have e1 := h1.size
  have e2 := h2.size
  have e3 := h3.size
  have e4 := h4.size
  have e5 := h5.size
  exact h1.trans ((h2.mono e1).trans ((h3.mono (by omega)).trans ((h4.mono (by omega)).trans ((h5.mono (by omega)).trans (h6.mono (by omega))))))

theorem dateN_not {s : ByteArray} (h : ¬ (s.size = 14 ∧ isD s = true)) : dateN s = 4 := by unfold dateN; rw [if_neg h]

set_option maxRecDepth 100000 in
set_option maxHeartbeats 2000000 in
theorem Date_is (s : ByteArray) (w : World) (h14 : s.size = 14) (hd : isD s = true) :
    Calls Tryd.prog 12 #[.string s] w fun e w' => e = .returned (.int .i64 (dateN s)) ∧ Below w.heap.size w w' := by
  have e : dateN s = if dateBad (fl s 0 4) (fl s 4 6) (fl s 6 8) (fl s 8 10) (fl s 10 12) (fl s 12 14) then 7 else 0 := by unfold dateN; rw [if_pos ⟨h14, hd⟩]
  have k1 := fl_le hd (a := 0) (b := 4) (by omega) (by omega) (by omega)
  have k2 := fl_le hd (a := 4) (b := 6) (by omega) (by omega) (by omega)
  have k3 := fl_le hd (a := 6) (b := 8) (by omega) (by omega) (by omega)
  have k4 := fl_le hd (a := 8) (b := 10) (by omega) (by omega) (by omega)
  have k5 := fl_le hd (a := 10) (b := 12) (by omega) (by omega) (by omega)
  have k6 := fl_le hd (a := 12) (b := 14) (by omega) (by omega) (by omega)
  have C1 := Lib.hid (fun W => few_part hd (a := 0) (b := 4) (by omega) (by omega) (by omega) W)
  have C2 := Lib.hid (fun W => few_part hd (a := 4) (b := 6) (by omega) (by omega) (by omega) W)
  have C3 := Lib.hid (fun W => few_part hd (a := 6) (b := 8) (by omega) (by omega) (by omega) W)
  have C4 := Lib.hid (fun W => few_part hd (a := 8) (b := 10) (by omega) (by omega) (by omega) W)
  have C5 := Lib.hid (fun W => few_part hd (a := 10) (b := 12) (by omega) (by omega) (by omega) W)
  have C6 := Lib.hid (fun W => few_part hd (a := 12) (b := 14) (by omega) (by omega) (by omega) W)
  rw [e]
  clear e
  generalize fl s 0 4 = y at *
  generalize fl s 4 6 = m at *
  generalize fl s 6 8 = d at *
  generalize fl s 8 10 = h at *
  generalize fl s 10 12 = mi at *
  generalize fl s 12 14 = se at *
  obtain ⟨D, hD⟩ : ∃ D, daysN y m = D := ⟨_, rfl⟩
  have HD := Lib.hid hD
  have HI := Lib.hid hd
  have h14i : (s.size : Int) = 14 := by omega
  have hres : (if dateBad y m d h mi se then (7 : Int) else 0) = if d < 1 then 7 else if D < d then 7 else if 23 < h then 7 else if 59 < mi then 7 else if 59 < se then 7 else 0 := by
    by_cases hb : dateBad y m d h mi se
    · rw [if_pos hb]
      unfold dateBad at hb
      rw [hD] at hb
      repeat' split
      all_goals omega
    · rw [if_neg hb]
      unfold dateBad at hb
      rw [hD] at hb
      repeat' split
      all_goals omega
  rw [hres]
  clear hres hD hd
  obtain ⟨R, hR⟩ : ∃ R : Int, (if d < 1 then 7 else if D < d then 7 else if 23 < h then 7 else if 59 < mi then 7 else if 59 < se then 7 else 0) = R := ⟨_, rfl⟩
  rw [hR]
  have HR := Lib.hid hR
  clear hR
  go_enter Tryd.func12, Tryd.ntmps12
  go_wp2_with (go_at_call 17; refine (Is_any _ _ (by omega)).mono ?_; rintro e w' ⟨rfl, rfl⟩; rw [HI.out])
  refine region_quiet_lit (Below w.heap.size w) (by kernel_rfl) (by kernel_rfl) (below_drewN (Below.refl _ _) 1) ?_
  repeat (go_big_quiet_step ((first
        | (intro hC; with_reducible rfl)
        | (intro hC; go_at_call_of 19 (Value.string (s.extract 0 4)); refine (C1.out _).mono ?_; rintro e w'' ⟨rfl, hb⟩; exact ⟨rfl, hC.trans (hb.mono hC.size)⟩)
        | (intro hC; go_at_call_of 19 (Value.string (s.extract 4 6)); refine (C2.out _).mono ?_; rintro e w'' ⟨rfl, hb⟩; exact ⟨rfl, hC.trans (hb.mono hC.size)⟩)
        | (intro hC; go_at_call_of 19 (Value.string (s.extract 6 8)); refine (C3.out _).mono ?_; rintro e w'' ⟨rfl, hb⟩; exact ⟨rfl, hC.trans (hb.mono hC.size)⟩))))
  refine wpQuiet_nil ?_
  intro wd hwd
  go_wp2_with fail
  refine region_quiet_lit (Below w.heap.size w) (by kernel_rfl) (by kernel_rfl) (below_drewN hwd 1) ?_
  repeat (go_big_quiet_step ((first
        | (intro hC; with_reducible rfl)
        | (intro hC; go_at_call_of 19 (Value.string (s.extract 8 10)); refine (C4.out _).mono ?_; rintro e w'' ⟨rfl, hb⟩; exact ⟨rfl, hC.trans (hb.mono hC.size)⟩)
        | (intro hC; go_at_call_of 19 (Value.string (s.extract 10 12)); refine (C5.out _).mono ?_; rintro e w'' ⟨rfl, hb⟩; exact ⟨rfl, hC.trans (hb.mono hC.size)⟩)
        | (intro hC; go_at_call_of 19 (Value.string (s.extract 12 14)); refine (C6.out _).mono ?_; rintro e w'' ⟨rfl, hb⟩; exact ⟨rfl, hC.trans (hb.mono hC.size)⟩))))
  refine wpQuiet_nil ?_
  intro we hwe
  go_wp2_with (go_at_call 14; refine (Days_any _ _ _).mono ?_; rintro e w' ⟨rfl, rfl⟩; rw [HD.out])
  all_goals go_ret
  all_goals have hh := HR.out
  all_goals refine ⟨ret_int ?_, hwe⟩
  all_goals rw [← hh]
  all_goals clear C1 C2 C3 C4 C5 C6 HD HI HR hh
  all_goals (repeat' split)
  all_goals omega

set_option maxHeartbeats 400000 in
theorem Date_not (s : ByteArray) (w : World) (hs : s.size ≤ 1000) (h : ¬ (s.size = 14 ∧ isD s = true)) :
    Calls Tryd.prog 12 #[.string s] w fun e w' => e = .returned (.int .i64 (dateN s)) ∧ w = w' := by
  rw [dateN_not h]
  by_cases h14 : s.size = 14
  · have hd : isD s = false := by cases hb : isD s with
      | false => rfl
      | true => exact absurd ⟨h14, hb⟩ h
    have h14i : (s.size : Int) = 14 := by omega
    clear h
    go_enter Tryd.func12, Tryd.ntmps12
    go_wp2_with (go_at_call 17; refine (Is_any _ _ (by omega)).mono ?_; rintro e w' ⟨rfl, rfl⟩; rw [hd])
    go_ret
    exact ⟨rfl, rfl⟩
  · have hb : ((s.size : Int) == 14) = false := by simp; omega
    have hb2 : ((s.size : Int) != 14) = true := by simp; omega
    clear h h14
    go_enter Tryd.func12, Tryd.ntmps12
    go_wp2
    go_ret
    exact ⟨rfl, rfl⟩

theorem Date_any (s : ByteArray) (w : World) (hs : s.size ≤ 1000) :
    Calls Tryd.prog 12 #[.string s] w fun e w' => e = .returned (.int .i64 (dateN s)) ∧ Below w.heap.size w w' := by
  by_cases h : s.size = 14 ∧ isD s = true
  · exact Date_is s w h.1 h.2
  · exact (Date_not s w hs h).mono fun e w' hh => ⟨hh.1, hh.2 ▸ Below.refl _ _⟩

/-- The document's list of the months' days. -/
def monL : List Int := [31, 28, 31, 30, 31, 30, 31, 31, 30, 31, 30, 31]
end Go.Proofs.YtfmknhildjgfmaaDoor
