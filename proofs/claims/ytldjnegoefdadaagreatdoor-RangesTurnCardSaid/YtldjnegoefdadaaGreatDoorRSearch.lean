/- Where a card's number stands in a table. -/
import Derived.Test.YtldjnegoefdadaaGreatDoorRTab
namespace Go.Proofs.YtldjnegoefdadaaGreatDoor
open Go.RowKit
set_option linter.unusedVariables false

/-- How a range's beginning stands to a number. -/
def ck (k : ByteArray) (r : RG) : Int := cmpC r.lo.data.toList k.data.toList
/-- p is where k stands in l: all ahead of it are lower, none from it on. -/
def Stands (l : List RG) (k : ByteArray) (p : Nat) : Prop := p ≤ l.length ∧ ∀ i (h : i < l.length), (i < p ↔ ck k l[i] < 0)

set_option maxRecDepth 4000 in
set_option maxHeartbeats 4000000 in
theorem search_any (l : List RG) (hl : ∀ r ∈ l, r.light) (h64 : l.length ≤ 64) (k : ByteArray) (hk : k.size ≤ 1000) (p : Nat) (hp : Stands l k p) (s : Value) (w : World) (hT : TBL w s l) :
    Calls Tryz.prog 62 #[s, .string k, .func (.func 63) #[] #[]] w fun e w' =>
      e = .returned (.tuple #[.int .i64 p, .bool (decide (∃ h : p < l.length, ck k l[p] = 0))]) ∧ Below w.heap.size w w' := by
  obtain ⟨a, cap, rfl⟩ := hT.slice
  have HT := Lib.hid hT
  have HP := Lib.hid hp
  obtain ⟨R, hR⟩ : ∃ R, decide (∃ h : p < l.length, ck k l[p] = 0) = R := ⟨_, rfl⟩
  rw [hR]
  have HR := Lib.hid hR
  clear hT hp hR
  go_enter Tryz.func62, Tryz.ntmps62
  go_wp2
  go_loopw [9, 10] (fun i j wr => ∃ x y : Nat, i = .int .i64 x ∧ j = .int .i64 y ∧ x ≤ p ∧ p ≤ y ∧ y ≤ l.length ∧ Hid (Below w.heap.size w wr)) (fun i j _ => (intOf j).toNat - (intOf i).toNat)
  case atStart => exact ⟨0, l.length, rfl, rfl, Nat.zero_le _, HP.out.1, Nat.le_refl _, Lib.hid (Below.refl _ _)⟩
  case round =>
    obtain ⟨x, y, rfl, rfl, hxp, hpy, hyl, HW⟩ := hrel
    by_cases hxy : x < y
    · have hxyI : (x : Int) < (y : Int) := by omega
      obtain ⟨h, hh⟩ : ∃ h, (x + y) / 2 = h := ⟨_, rfl⟩
      have hhI : ((x : Int) + (y : Int)) / 2 = (h : Int) := by omega
      have hl2 : h < l.length := by omega
      have hl2I : (h : Int) < (l.length : Int) := by omega
      obtain ⟨g, cap', he, hg, hrng⟩ := (HT.out.below HW.out).cell h hl2
      injection he with he1 he2 he3
      subst he1 he3
      have p0 := hrng 0 _ rfl
      have p1 := hrng 1 _ rfl
      have p2 := hrng 2 _ rfl
      have p3 := hrng 3 _ rfl
      have p4 := hrng 4 _ rfl
      have p5 := hrng 5 _ rfl
      rw [Nat.add_zero] at p0
      have HK := Lib.hid (fun W => place1_any l[h] (hl _ (List.getElem_mem _)) k hk W)
      have HST := Lib.hid (HP.out.2 h hl2)
      clear hrng
      obtain ⟨rh, hrh⟩ : ∃ r, l[h] = r := ⟨_, rfl⟩
      unfold ck at HST
      rw [hrh] at HK HST p0 p1 p2 p3 p4 p5
      obtain ⟨c, hc⟩ : ∃ c, cmpC rh.lo.data.toList k.data.toList = c := ⟨_, rfl⟩
      rw [hc] at HK HST
      go_wp2_with fail
      refine (HK.out _).mono ?_
      rintro e w1 ⟨rfl, hb⟩
      have B1 := Lib.hid (HW.out.trans (hb.mono HW.out.size))
      clear hb p0 p1 p2 p3 p4 p5
      by_cases hc0 : c < 0
      · have hn1 : h + 1 ≤ p := by have := HST.out.2 hc0; omega
        go_wp2_with fail
        go_roundw
        case rel => exact ⟨h + 1, y, by go_num, rfl, by omega, by omega, by omega, B1⟩
        case measure => simp [intOf]; omega
      · have hn1 : p ≤ h := Nat.le_of_not_lt fun e => hc0 (HST.out.1 e)
        go_wp2_with fail
        go_roundw
        case rel => exact ⟨x, h, rfl, rfl, by omega, by omega, by omega, B1⟩
        case measure => simp [intOf]; omega
    · have hxyI : ¬ (x : Int) < (y : Int) := by omega
      have hx : x = p := by omega
      subst hx
      by_cases hxl : x < l.length
      · have hxlI : (x : Int) < (l.length : Int) := by omega
        obtain ⟨g, cap', he, hg, hrng⟩ := (HT.out.below HW.out).cell x hxl
        injection he with he1 he2 he3
        subst he1 he3
        have p0 := hrng 0 _ rfl
        have p1 := hrng 1 _ rfl
        have p2 := hrng 2 _ rfl
        have p3 := hrng 3 _ rfl
        have p4 := hrng 4 _ rfl
        have p5 := hrng 5 _ rfl
        rw [Nat.add_zero] at p0
        have HK := Lib.hid (fun W => place1_any l[x] (hl _ (List.getElem_mem _)) k hk W)
        have HRE : Hid (R = decide (cmpC l[x].lo.data.toList k.data.toList = 0)) := Lib.hid (by rw [← HR.out]; exact decide_eq_decide.2 ⟨fun ⟨_, h⟩ => h, fun h => ⟨hxl, h⟩⟩)
        clear hrng
        obtain ⟨rh, hrh⟩ : ∃ r, l[x] = r := ⟨_, rfl⟩
        rw [hrh] at HK HRE p0 p1 p2 p3 p4 p5
        obtain ⟨c, hc⟩ : ∃ c, cmpC rh.lo.data.toList k.data.toList = c := ⟨_, rfl⟩
        rw [hc] at HK HRE
        clear hc hrh HR HP
        go_wp2_with fail
        refine (HK.out _).mono ?_
        rintro e w1 ⟨rfl, hb⟩
        have B1 := Lib.hid (HW.out.trans (hb.mono HW.out.size))
        clear hb p0 p1 p2 p3 p4 p5
        go_wp2
        exact bodyPost_ret (results_tmp2 rfl _ _ _) rfl ⟨by rw [HRE.out]; rfl, B1.out⟩
      · have hxlI : ¬ (x : Int) < (l.length : Int) := by omega
        have HRE : Hid (R = false) := Lib.hid (by rw [← HR.out]; exact decide_eq_false (fun ⟨h, _⟩ => hxl h))
        clear HR HP
        go_wp2
        exact bodyPost_ret (results_tmp2 rfl _ _ _) rfl ⟨by rw [HRE.out]; rfl, HW.out⟩
end Go.Proofs.YtldjnegoefdadaaGreatDoor
