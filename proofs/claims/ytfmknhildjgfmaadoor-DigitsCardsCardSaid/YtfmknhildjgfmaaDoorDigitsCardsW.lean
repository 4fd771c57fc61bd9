/- The walk of DigitsCards. -/
import Derived.Deep.DeepCutAuto
import Derived.Test.YtfmknhildjgfmaaDoorDCard
namespace Go.Proofs.YtfmknhildjgfmaaDoor
open Go.RowKit
set_option linter.unusedVariables false

/-- One digit turned by y: the check digit stays right just if y is a multiple of ten. -/
theorem luhn_turn {T : ByteArray} {i : Nat} {c : UInt8} {y : Nat} (hi : i < T.size) (hT : luhnB T = true)
    (hc : c.toNat = 48 + ((T.data.toList.getD i 0).toNat - 48 + y % 10) % 10) : luhnB ⟨(T.data.toList.set i c).toArray⟩ = decide (y % 10 = 0) := by
  have hT2 := hT
  unfold luhnB at hT2
  rw [Bool.and_eq_true, decide_eq_true_eq] at hT2
  obtain ⟨hD, h0⟩ := hT2
  obtain ⟨hs, hall⟩ := (isD_iff T).1 hD
  have hl : T.data.toList.length = T.size := by simp
  have hcd : isDig c = true := (isDig_iff c).2 (by omega)
  have hx : isDig (T.data.toList.getD i 0) = true := hall _ (by rw [List.getD_eq_getElem?_getD, List.getElem?_eq_getElem (by omega)]; exact List.getElem_mem _)
  have hx2 := (isDig_iff _).1 hx
  have hD2 : isD ⟨(T.data.toList.set i c).toArray⟩ = true := (isD_iff _).2 ⟨by
      show 0 < (T.data.toList.set i c).toArray.size
      rw [List.size_toArray, List.length_set, hl]; exact hs, fun d hd => by
      have hd' : d ∈ T.data.toList.set i c := hd
      rcases List.mem_or_eq_of_mem_set hd' with h | h
      · exact hall d h
      · rw [h]; exact hcd⟩
  have ht := turned T.data.toList i c (by omega) hall hcd h0
  rw [luhnB_is hD2]
  have e : (wsB 0 ⟨(T.data.toList.set i c).toArray⟩ % 10 = 0) ↔ c = T.data.toList.getD i 0 := ht
  have e2 : c = T.data.toList.getD i 0 ↔ y % 10 = 0 := by
    constructor
    · intro h
      rw [← h] at hc hx2
      omega
    · intro h
      apply UInt8.toNat_inj.1
      omega
  rw [Bool.eq_iff_iff, decide_eq_true_eq, decide_eq_true_eq, e, e2]

theorem conv_one (k : Nat) (hk : k < 256) (W : World) :
    (convert 29 9 (.slice (some ⟨W.heap.size, 0, none⟩) 1 1)).run Tryd.prog (W.alloc (.cells #[.int .u8 (k : Nat)] 5)) = .ok (.string ⟨#[UInt8.ofNat k]⟩) (W.alloc (.cells #[.int .u8 (k : Nat)] 5)) := by
  have hn : (UInt8.ofNat k).toNat = k := by simp; omega
  refine conv_bytes _ 29 9 5 Tryd.underlying29 Tryd.underlying5 Tryd.underlying9 W.heap.size 0 1 1 [UInt8.ofNat k] rfl (fun i hi => ?_)
  have hr := (Row.new W 5 [Value.int .u8 (k : Nat)]).cell i
  rw [Nat.zero_add, hr]
  simp [bv, hn]

theorem prep (wd : World) (k : Nat) (T : ByteArray) : ∃ (cap : Nat) (w7 : World), (convert 9 29 (.string T)).run Tryd.prog (wd.alloc (.cells #[.int .u8 (k : Nat)] 5)) = .ok (.slice (some ⟨wd.heap.size + 1, 0, none⟩) T.size cap) w7 ∧
    Hid ((∀ j, j < T.size → w7.cell? ⟨wd.heap.size + 1, j, none⟩ = some (bv (T.data.toList.getD j 0))) ∧ (∀ j, j < T.size → w7.frozen? ⟨wd.heap.size + 1, j, none⟩ = false) ∧ Below wd.heap.size wd w7 ∧ w7.heap.size = wd.heap.size + 2) := by
  obtain ⟨cap, w7, hcv, hcell, hfr, hb7, hz7⟩ := str_bytes (P := Tryd.prog) (wd.alloc (.cells #[.int .u8 (k : Nat)] 5)) 9 29 5 T Tryd.underlying9 Tryd.underlying29 Tryd.underlying5
  rw [World.size_alloc] at hcv hcell hfr hz7 hb7
  exact ⟨cap, w7, hcv, Lib.hid ⟨hcell, hfr, ((Below.refl _ wd).alloc (Nat.le_refl _) _).trans (hb7.mono (by omega)), hz7⟩⟩

theorem prep8 {w7 w8 : World} {g i : Nat} {T : ByteArray} {v : Int} {c : UInt8} (hv : v = c.toNat) (hc : ∀ j, j < T.size → w7.cell? ⟨g, j, none⟩ = some (bv (T.data.toList.getD j 0))) (hg : g < w7.heap.size) (hi : i < T.size)
    (hB : Below (w7.setCell ⟨g, i, none⟩ (.int .u8 v)).heap.size (w7.setCell ⟨g, i, none⟩ (.int .u8 v)) w8) (cap : Nat) :
    (convert 29 9 (.slice (some ⟨g, 0, none⟩) T.size cap)).run Tryd.prog w8 = .ok (.string ⟨(T.data.toList.set i c).toArray⟩) w8 := by
  subst hv
  refine conv_bytes _ 29 9 5 Tryd.underlying29 Tryd.underlying5 Tryd.underlying9 g 0 T.size cap (T.data.toList.set i c) (by simp) (fun j hj => ?_)
  have hcell : w8.cell? ⟨g, 0 + j, none⟩ = (w7.setCell ⟨g, i, none⟩ (.int .u8 (c.toNat : Int))).cell? ⟨g, 0 + j, none⟩ := by
    simp only [World.cell?]
    rw [hB.block g (by rw [World.size_setCell]; exact hg)]
  rw [hcell, Nat.zero_add, List.getElem?_map, List.getElem?_set]
  by_cases h : i = j
  · subst h
    rw [if_pos rfl, if_pos (by simpa using hi), World.cell?_setCell_same (h := hc _ hj)]
    rfl
  · rw [if_neg h, World.cell?_setCell_other (h := by intro e; injection e with _ e2 _; exact h e2), hc j hj]
    have hj' : j < T.data.toList.length := by simpa using hj
    rw [List.getD_eq_getElem?_getD, List.getElem?_eq_getElem hj']
    rfl

set_option maxRecDepth 100000 in
set_option maxHeartbeats 400000 in
theorem DigitsCards_walk (a0 : ByteArray) (a1 : Int) (a2 : Int) (w0 : a0.size ≤ 140737488355328) (w1 : (Lit.int .u8 a1).wf = true) (w2 : (Lit.int .u8 a2).wf = true) (w : World) :
    Calls Tryd.prog 3 #[.string a0, .int .u8 a1, .int .u8 a2] w fun e w' => e = .returned (.bool true) ∧ Below w.heap.size w w' := by
  have h1 : 0 ≤ a1 ∧ a1 ≤ 255 := by simpa [Lit.wf, IntKind.min, IntKind.max, IntKind.signed, IntKind.bits] using w1
  have h2 : 0 ≤ a2 ∧ a2 ≤ 255 := by simpa [Lit.wf, IntKind.min, IntKind.max, IntKind.signed, IntKind.bits] using w2
  clear w1 w2
  obtain ⟨h10, h11⟩ := h1
  obtain ⟨h20, h21⟩ := h2
  by_cases h100 : 100 < a0.size
  · have h100' : (100 : Int) < (a0.size : Int) := by omega
    go_enter Tryd.func3, Tryd.ntmps3
    go_wp2_with (go_at_call 5; refine (awake_any _).mono ?_; rintro e wa ⟨rfl, hBa⟩)
    go_ret
    exact ⟨rfl, hBa⟩
  · have h100' : (a0.size : Int) ≤ 100 := by omega
    obtain ⟨C, HC⟩ : ∃ C, Hid (cardN a0 = C) := ⟨_, Lib.hid rfl⟩
    obtain ⟨L, HL⟩ : ∃ L, Hid (luhnB a0 = L) := ⟨_, Lib.hid rfl⟩
    have hLL : (L != L) = false := by simp
    have hCC : (C != C) = false := by simp
    cases hd : isD a0 with
    | false =>
      have HD := Lib.hid hd
      clear hd
      go_enter Tryd.func3, Tryd.ntmps3
      go_wp2_with (first
        | (go_at_call 5; refine (awake_any _).mono ?_; rintro e wa ⟨rfl, hBa⟩)
        | (go_at_call 6; refine (Check_not a0 _ (by omega) HD.out).mono ?_; rintro e wb ⟨rfl, rfl⟩)
        | (go_at_call 7; refine (Luhn_any a0 _ (by omega)).mono ?_; rintro e wc ⟨rfl, hBc⟩; rw [HL.out])
        | (go_at_call 8; refine (refLuhn_any a0 _ (by omega)).mono ?_; rintro e wd ⟨rfl, rfl⟩; rw [HL.out])
        | (go_at_call 9; refine (Card_any a0 _ (by omega)).mono ?_; rintro e wd ⟨rfl, hBd⟩; rw [HC.out])
        | (go_at_call 10; refine (refCard_any a0 _ (by omega)).mono ?_; rintro e we ⟨rfl, rfl⟩; rw [HC.out])
        | (go_at_call 11; refine (refIs_any a0 _ (by omega)).mono ?_; rintro e we ⟨rfl, rfl⟩; rw [HD.out]))
      go_ret
      exact ⟨rfl, hBa.trans ((hBc.mono hBa.size).trans (hBd.mono (Nat.le_trans hBa.size hBc.size)))⟩
    | true =>
      have HD := Lib.hid hd
      clear hd
      have hk0 : checkN a0 < 58 := by unfold checkN; omega
      have hluhn := luhn_check HD.out
      obtain ⟨k, hk⟩ : ∃ k, checkN a0 = k := ⟨_, rfl⟩
      have HK := Lib.hid hk
      rw [hk] at hk0 hluhn
      obtain ⟨T, hT⟩ : ∃ T, a0 ++ ⟨#[UInt8.ofNat k]⟩ = T := ⟨_, rfl⟩
      have hTs : T.size = a0.size + 1 := by rw [← hT, ByteArray.size_append]; rfl
      rw [hT] at hluhn
      have HLT := Lib.hid hluhn
      clear hluhn hk
      have hTi : (T.size : Int) = (a0.size : Int) + 1 := by omega
      have hconv := fun W => conv_one k (by omega) W
      have hTp : 0 < T.size := by omega
      obtain ⟨i, hi⟩ : ∃ i : Nat, a1 % ((a0.size : Int) + 1) = i := ⟨(a1 % ((a0.size : Int) + 1)).toNat, by have := Int.emod_nonneg a1 (b := (a0.size : Int) + 1) (by omega); omega⟩
      have hiT : i < T.size := by have := Int.emod_lt_of_pos a1 (b := (a0.size : Int) + 1) (by omega); omega
      have hiI : (i : Int) < (a0.size : Int) + 1 := by omega
      obtain ⟨y, rfl⟩ : ∃ y : Nat, a2 = y := ⟨a2.toNat, by omega⟩
      obtain ⟨x, hx⟩ : ∃ x, T.data.toList.getD i 0 = x := ⟨_, rfl⟩
      have hxd : 48 ≤ x.toNat ∧ x.toNat ≤ 57 := by
        have h := HLT.out
        unfold luhnB at h
        rw [Bool.and_eq_true] at h
        refine (isDig_iff x).1 (((isD_iff T).1 h.1).2 x ?_)
        rw [← hx, List.getD_eq_getElem?_getD, List.getElem?_eq_getElem (by simpa using hiT)]
        exact List.getElem_mem _
      obtain ⟨hx48, hx57⟩ := hxd
      have hx48' : (48 : Int) ≤ (x.toNat : Int) := by omega
      have hx57' : (x.toNat : Int) ≤ 57 := by omega
      have HX := Lib.hid hx
      have HI := Lib.hid hiT
      obtain ⟨D, hD⟩ : ∃ D, decide (y % 10 = 0) = D := ⟨_, rfl⟩
      obtain ⟨c, hc⟩ : ∃ c : UInt8, c.toNat = 48 + (x.toNat - 48 + y % 10) % 10 := ⟨UInt8.ofNat (48 + (x.toNat - 48 + y % 10) % 10), by simp; omega⟩
      obtain ⟨Bt, HBt⟩ : ∃ Bt : ByteArray, Hid (⟨(T.data.toList.set i c).toArray⟩ = Bt) := ⟨_, Lib.hid rfl⟩
      have HLB : Hid (luhnB Bt = D) := Lib.hid (by rw [← HBt.out, ← hD]; exact luhn_turn hiT HLT.out (by rw [hx]; exact hc))
      have HBs : Hid (Bt.size ≤ 1000) := Lib.hid (by
        rw [← HBt.out]
        show (T.data.toList.set i c).toArray.size ≤ 1000
        rw [List.size_toArray, List.length_set]
        simp; omega)
      have HC8 : Hid ((c.toNat : Int) = 48 + ((x.toNat : Int) - 48 + (y : Int) % 10) % 10) := Lib.hid (by omega)
      have hYD : ((y : Int) % 10 == 0) = D := by rw [← hD, Bool.eq_iff_iff, beq_iff_eq, decide_eq_true_eq]; omega
      have hDD : (D == D) = true := by simp
      clear hTs hx hx48 hx57 hD hc
      go_enter Tryd.func3, Tryd.ntmps3
      go_wp2_with (first
        | (go_at_call 5; refine (awake_any _).mono ?_; rintro e wa ⟨rfl, hBa⟩)
        | (go_at_call 6; refine (Check_is a0 _ (by omega) HD.out).mono ?_; rintro e wb ⟨rfl, hBb⟩; rw [HK.out])
        | (go_at_call 7; refine (Luhn_any _ _ (by first | omega | exact HBs.out)).mono ?_; first | (rintro e wc ⟨rfl, hBc⟩; rw [HL.out]) | (rintro e w8 ⟨rfl, hB8⟩; rw [HLT.out]; have hcv8 := prep8 (c := c) (by have := HC8.out; omega) H7.out.1 (by rw [H7.out.2.2.2]; omega) HI.out hB8 cap; rw [HBt.out] at hcv8) | (rintro e w9 ⟨rfl, hB9⟩; rw [HLB.out]))
        | (go_at_call 8; refine (refLuhn_any _ _ (by omega)).mono ?_; rintro e wd ⟨rfl, rfl⟩; first | rw [HL.out] | rw [HLT.out])
        | (go_at_call 9; refine (Card_any a0 _ (by omega)).mono ?_; rintro e wd ⟨rfl, hBd⟩; rw [HC.out]; obtain ⟨cap, w7, hcv, H7⟩ := prep wd k T; have hci : w7.cell? ⟨wd.heap.size + 1, i, none⟩ = some (.int .u8 (x.toNat : Int)) := (by rw [H7.out.1 i HI.out, HX.out]; rfl); have hfi := H7.out.2.1 i HI.out)
        | (go_at_call 10; refine (refCard_any a0 _ (by omega)).mono ?_; rintro e we ⟨rfl, rfl⟩; rw [HC.out])
        | (go_at_call 11; refine (refIs_any a0 _ (by omega)).mono ?_; rintro e we ⟨rfl, rfl⟩; rw [HD.out]))
      go_ret
      have h7 := H7.out.2.2
      have e1 := hBa.size
      have e2 := hBb.size
      have e3 := hBc.size
      have e4 := hBd.size
      have e6 := hB8.size
      rw [World.size_setCell, h7.2] at e6
      have k7 : Below w.heap.size w w7 := hBa.trans ((hBb.mono e1).trans ((hBc.mono (by omega)).trans ((hBd.mono (by omega)).trans (h7.1.mono (by omega)))))
      have k8 := fun (h : w.heap.size ≤ (w7.setCell ⟨wd.heap.size + 1, i, none⟩ (.int .u8 (48 + ((x.toNat : Int) - 48 + (y : Int)) % 10))).heap.size) => hB8.mono h
      exact ⟨rfl, (k7.setCell (p := ⟨wd.heap.size + 1, i, none⟩) (by show w.heap.size ≤ wd.heap.size + 1; omega) _).trans ((k8 (by rw [World.size_setCell, h7.2]; omega)).trans (hB9.mono (by omega)))⟩
end Go.Proofs.YtfmknhildjgfmaaDoor
