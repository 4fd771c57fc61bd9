import Derived.Test.YtlmbijhkpgolaaaDoorRows
import Derived.WalkKit
import Derived.WalkSpells
import Derived.WalkLawsBesides
import Derived.Lib.Hide
import Derived.Deep.DeepCutAuto
import Derived.Test.YtlmbijhkpgolaaaDoorPlain
import Derived.Test.YtlmbijhkpgolaaaDoorMem
import Derived.Test.YtlmbijhkpgolaaaDoorCrc
import Derived.Deep.WholeRow
namespace Go.Proofs.YtlmbijhkpgolaaaDoor
open Go.RowKit
set_option linter.unusedVariables false

theorem tab_info : (Tryd.prog.info? 109).map (fun i => (i.zero, i.size)) = some (some (.agg zero256), 256) := by kernel_rfl
theorem tab_size : (Tryd.prog.info? 109).map (·.size) = some 256 := (zero_of_info tab_info).2

/-- The operations of a step, in the walk's spelling. -/
theorem and_one (c : Nat) (hc : c < 4294967296) : bits BinOp.and IntKind.u32 (c : Int) 1 = ((c % 2 : Nat) : Int) := by
  have h := u32_and_nat c 1 hc (by omega)
  rw [Nat.and_one_is_mod] at h
  exact h
theorem xor_poly (c : Nat) (hc : c < 4294967296) : bits BinOp.xor IntKind.u32 (c : Int) 3988292384 = ((c ^^^ 3988292384 : Nat) : Int) :=
  u32_xor_nat c 3988292384 hc (by omega)
theorem stp_odd {c : Nat} (h : c % 2 = 1) : stp c = c / 2 ^^^ 3988292384 := by unfold stp; rw [if_pos h]
theorem stp_even {c : Nat} (h : ¬ c % 2 = 1) : stp c = c / 2 := by unfold stp; rw [if_neg h]

set_option maxHeartbeats 400000 in
theorem eight_any (c : Nat) (w : World) (hc : c < 4294967296) :
    Calls Tryd.prog 89 #[.int .u32 c] w fun e w' => e = .returned (.int .u32 (stpN 8 c : Nat)) ∧ w = w' := by
  go_enter Tryd.func89, Tryd.ntmps89
  go_wp2
  go_loop [0, 4] (fun t i => ∃ k : Nat, k ≤ 8 ∧ i = .int .i64 k ∧ t = .int .u32 (stpN k c : Nat)) (fun _ i => 8 - (intOf i).toNat)
  case atStart => exact ⟨0, Nat.zero_le _, rfl, rfl⟩
  case round =>
    obtain ⟨k, hk, rfl, rfl⟩ := hrel
    by_cases hlt : k < 8
    · obtain ⟨m, HM⟩ : ∃ m, Hid (m = stpN k c) := ⟨_, rfl⟩
      have hm : m < 4294967296 := by rw [HM.out]; exact stpN_lt hc k
      rw [← HM.out]
      have hand := and_one m hm
      have hs : stpN (k + 1) c = stp m := by rw [HM.out]; rfl
      have HS := Lib.hid hs
      clear hs
      by_cases hodd : m % 2 = 1
      · have hx := xor_poly (m / 2) (by omega)
        have hdiv : ((m / 2 : Nat) : Int) = (m : Int) / 2 := by simp
        rw [hdiv] at hx
        have hso := Lib.hid (stp_odd hodd)
        rw [hodd] at hand
        clear hdiv hodd
        go_wp2
        go_round
        case rel => exact ⟨k + 1, by omega, by go_num, by rw [HS.out, hso.out]⟩
        case measure => simp [intOf]; omega
      · have hse := Lib.hid (stp_even hodd)
        have hz : m % 2 = 0 := by omega
        rw [hz] at hand
        clear hz hodd
        go_wp2
        go_round
        case rel => exact ⟨k + 1, by omega, by go_num, by rw [HS.out, hse.out]; congr 1⟩
        case measure => simp [intOf]; omega
    · have : k = 8 := by omega
      subst this
      go_wp2
      go_ret
      exact ⟨rfl, rfl⟩

/-- The number of the table's items, behind a name. -/
def tabN : Nat := 256
theorem tabN_eq : tabN = 256 := rfl

set_option maxRecDepth 3000 in
set_option maxHeartbeats 400000 in
theorem Table_any (w : World) :
    Calls Tryd.prog 75 #[] w fun e w' => e = .returned (.agg tabA) ∧ Below w.heap.size w w' := by
  have hz := (zero_of_info tab_info).1
  go_enter Tryd.func75, Tryd.ntmps75
  go_wp2
  have hr0 : Row ((w.alloc (.cells zero256 109)).alloc (.cells zero256 109)) w.heap.size 109 (tabL 0) := by
    rw [zero256_eq]; exact (Row.new w _ _).alloc _
  have hr1 : Row ((w.alloc (.cells zero256 109)).alloc (.cells zero256 109)) (w.heap.size + 1) 109 (tabL 0) := by
    have h := Row.new (w.alloc (.cells zero256 109)) 109 (tabL 0)
    rw [← zero256_eq] at h
    simpa using h
  have hb0 : Below w.heap.size w ((w.alloc (.cells zero256 109)).alloc (.cells zero256 109)) := ((Below.refl _ _).alloc (Nat.le_refl _) _).alloc (by simp) _
  generalize (w.alloc (.cells zero256 109)).alloc (.cells zero256 109) = w1 at hr0 hr1 hb0 ⊢
  clear hz
  go_loopw [3] (fun i wr => ∃ k : Nat, k ≤ tabN ∧ i = .int .i64 k ∧ Row wr w.heap.size 109 (tabL 0) ∧ Row wr (w.heap.size + 1) 109 (tabL k) ∧ Below w.heap.size w wr) (fun i _ => tabN - (intOf i).toNat)
  case atStart => exact ⟨0, Nat.zero_le _, rfl, hr0, hr1, hb0⟩
  case round =>
    obtain ⟨k, hk, rfl, h0, h1, hb⟩ := hrel
    rw [tabN_eq] at hk
    by_cases hlt : k < 256
    · obtain ⟨v0, hc0⟩ : ∃ v, wr.cell? ⟨w.heap.size + 1, k, none⟩ = some v := ⟨_, by rw [h1.cell]; exact tabL_get k k hlt⟩
      have hf0 := h1.frozen k
      have hs0 := h0.far (p := ⟨w.heap.size + 1, k, none⟩) (by simp) (.int .u32 (stpN 8 k : Nat))
      have hs1 := h1.set k (.int .u32 (stpN 8 k : Nat))
      rw [tabL_set k hlt] at hs1
      have hbs := hb.setCell (p := ⟨w.heap.size + 1, k, none⟩) (by simp) (.int .u32 (stpN 8 k : Nat))
      have H := Lib.hid (And.intro hs0 (And.intro hs1 hbs))
      clear hs0 hs1 hbs h0 h1 hb hr0 hr1 hb0
      go_wp2_with (go_at_call 89; refine (eight_any k _ (by omega)).mono ?_; rintro e w' ⟨rfl, rfl⟩)
      go_roundw
      case rel => exact ⟨k + 1, by rw [tabN_eq]; omega, by go_num, H.out.1, H.out.2.1, H.out.2.2⟩
      case measure => simp [intOf, tabN_eq]; omega
    · have hk2 : k = 256 := by omega
      rw [hk2] at h1
      have hge : 256 ≤ k := by omega
      clear hk2 hlt hr0 hr1 hb0
      go_wp2_with (first
        | (refine wpList_load_row rfl 109 (.tmp 1) rfl (w.heap.size + 1) rfl 109 tabA (0, 0) _ h1 Tryd.underlying109 rfl (by rw [tab_size, tabA_size]) ?_)
        | (refine wpList_store_row rfl 109 (.tmp 0) (.tmp 12) rfl w.heap.size tabA rfl rfl 109 (tabL 0).toArray h0 (by rw [tab_size, tabA_size]) (by rw [tabA_size]; simp [tabL_length]) tabA_one ?_))
      have hr := h0.put (tabL 256)
      have hbs := below_setRow (B := w.heap.size) hb (Nat.le_refl _) tabA
      exact bodyPost_ret (v := .agg tabA) (results_cell_row rfl _ _ w.heap.size 109 tabA (0, 0) _ rfl hr Tryd.underlying109 rfl (by rw [tab_size, tabA_size])) rfl ⟨rfl, hbs⟩
end Go.Proofs.YtlmbijhkpgolaaaDoor
