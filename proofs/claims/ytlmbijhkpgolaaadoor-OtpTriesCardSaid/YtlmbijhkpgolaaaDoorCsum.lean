/- The contracts of octet's sum and of the document's. -/
import Derived.Test.YtlmbijhkpgolaaaDoorRows
import Derived.WalkKit
import Derived.WalkSpells
import Derived.WalkLawsBesides
import Derived.Lib.Hide
import Derived.Test.YtlmbijhkpgolaaaDoorPlain
import Derived.Test.YtlmbijhkpgolaaaDoorMem
import Derived.Test.YtlmbijhkpgolaaaDoorCrc
import Derived.Test.YtlmbijhkpgolaaaDoorTab
namespace Go.Proofs.YtlmbijhkpgolaaaDoor
open Go.RowKit
set_option linter.unusedVariables false

/-- All the bytes of texts, one behind the other. -/
def cat (ss : List ByteArray) : List UInt8 := (ss.map fun s => s.data.toList).flatten

theorem cat_take_snoc (ss : List ByteArray) (k : Nat) (h : k < ss.length) : cat (ss.take (k + 1)) = cat (ss.take k) ++ (ss.getD k ByteArray.empty).data.toList := by
  rw [List.take_succ_eq_append_getElem h]
  unfold cat
  rw [List.map_append, List.flatten_append]
  simp [List.getD, h]

theorem xor_u8 (c : Nat) (b : UInt8) : bits BinOp.xor IntKind.u8 ((c : Int) % 256) (b.toNat : Int) = ((c % 256 ^^^ b.toNat : Nat) : Int) := by
  have h := u8_xor_nat (c % 256) b.toNat (by omega) (UInt8.toNat_lt b)
  simpa using h
theorem xor_u32 (c x : Nat) (hc : c < 4294967296) (hx : x < 4294967296) : bits BinOp.xor IntKind.u32 ((c : Int) / 256) (x : Int) = ((c / 256 ^^^ x : Nat) : Int) := by
  have h := u32_xor_nat (c / 256) x (by omega) hx
  simpa using h

theorem ones_xor (x : Nat) (hx : x < 4294967296) : 4294967295 ^^^ x = 4294967295 - x := by
  have h1 : (BitVec.allOnes 32 ^^^ BitVec.ofNat 32 x).toNat = 4294967295 ^^^ x := by
    rw [BitVec.toNat_xor, BitVec.toNat_allOnes, BitVec.toNat_ofNat, Nat.mod_eq_of_lt hx]
  have h2 : (BitVec.allOnes 32 ^^^ BitVec.ofNat 32 x).toNat = 4294967295 - x := by
    rw [BitVec.allOnes_xor, BitVec.toNat_not, BitVec.toNat_ofNat, Nat.mod_eq_of_lt hx]
  exact h1.symm.trans h2
theorem max_xor (x : Nat) (hx : x < 4294967296) : bits BinOp.xor IntKind.u32 IntKind.u32.max (x : Int) = ((4294967295 - x : Nat) : Int) := by
  have h := u32_xor_nat 4294967295 x (by omega) hx
  rw [ones_xor x hx] at h
  exact h

set_option maxRecDepth 3000 in
set_option maxHeartbeats 800000 in
theorem CRC_any (ss : List ByteArray) (g n cap : Nat) (w : World) (hn : ss.length = n) (hm : n ≤ 9223372036854775807) (hg : g < w.heap.size)
    (hsz : ∀ i, i < n → (ss.getD i ByteArray.empty).size ≤ 9223372036854775807)
    (hcells : ∀ i, i < n → w.cell? ⟨g, i, none⟩ = some (.string (ss.getD i ByteArray.empty))) :
    Calls Tryd.prog 59 #[.slice (some ⟨g, 0, none⟩) n cap] w fun e w' => e = .returned (.int .u32 (crcL (cat ss) : Nat)) ∧ Below w.heap.size w w' := by
  have hz := (zero_of_info tab_info).1
  have HC := Lib.hid hcells
  have HN := Lib.hid hn
  clear hcells hn
  go_enter Tryd.func59, Tryd.ntmps59
  go_wp2_with (first
    | (go_at_call 75; refine (Table_any _).mono ?_; rintro e w1 ⟨rfl, hb1⟩)
    | (refine wpList_store_row rfl 109 (.tmp 3) (.tmp 8) rfl w1.heap.size tabA rfl rfl 109 zero256 (by simp [World.alloc, -World.alloc_eq]) (by rw [tab_size, tabA_size]) (by rw [tabA_size]; simp [zero256]) tabA_one ?_))
  have hrow : Row ((w1.alloc (.cells zero256 109)).setRow w1.heap.size tabA) w1.heap.size 109 (tabL 256) := by
    have h := Row.new w1 109 (tabL 0)
    rw [← zero256_eq] at h
    exact h.put _
  have hbel : Below w.heap.size w ((w1.alloc (.cells zero256 109)).setRow w1.heap.size tabA) := below_setRow (hb1.alloc hb1.size _) hb1.size _
  generalize (w1.alloc (.cells zero256 109)).setRow w1.heap.size tabA = w2 at hrow hbel ⊢
  generalize w1.heap.size = T at hrow ⊢
  have HC2 : Hid (∀ i, i < n → w2.cell? ⟨g, i, none⟩ = some (.string (ss.getD i ByteArray.empty))) := fun i hi => (hbel.cell hg).trans (HC.out i hi)
  have HS := Lib.hid hsz
  have HB := Lib.hid hbel
  clear hz hb1 HC hsz hbel hg
  go_loop [4, 11] (fun t i => ∃ k : Nat, k ≤ n ∧ i = .int .i64 k ∧ t = .int .u32 (crcR 4294967295 (cat (ss.take k)) : Nat)) (fun _ i => n - (intOf i).toNat)
  case atStart => exact ⟨0, Nat.zero_le _, rfl, rfl⟩
  case round =>
    obtain ⟨k, hk, rfl, rfl⟩ := hrel
    by_cases hlt : k < n
    · obtain ⟨s, hs⟩ : ∃ s, s = ss.getD k ByteArray.empty := ⟨_, rfl⟩
      have hc0 : w2.cell? ⟨g, k, none⟩ = some (.string s) := by rw [hs]; exact HC2.out k hlt
      have hss : s.size ≤ 9223372036854775807 := by rw [hs]; exact HS.out k hlt
      have hcat : cat (ss.take (k + 1)) = cat (ss.take k) ++ s.data.toList := by rw [hs]; exact cat_take_snoc ss k (by rw [HN.out]; exact hlt)
      have HT := Lib.hid hcat
      obtain ⟨C, HCC⟩ : ∃ C, Hid (C = crcR 4294967295 (cat (ss.take k))) := ⟨_, rfl⟩
      have hC : C < 4294967296 := by rw [HCC.out]; exact crcR_lt _ (by omega)
      rw [← HCC.out]
      clear hcat hs
      go_wp2
      go_loop [4, 17] (fun t i => ∃ j : Nat, j ≤ s.size ∧ i = .int .i64 j ∧ t = .int .u32 (crcR C (s.data.toList.take j) : Nat)) (fun _ i => s.size - (intOf i).toNat)
      case atStart => exact ⟨0, Nat.zero_le _, rfl, rfl⟩
      case round =>
        obtain ⟨j, hj, rfl, rfl⟩ := hrel
        by_cases hlt2 : j < s.size
        · obtain ⟨c, Hc⟩ : ∃ c, Hid (c = crcR C (s.data.toList.take j)) := ⟨_, rfl⟩
          have hcl : c < 4294967296 := by rw [Hc.out]; exact crcR_lt _ hC
          rw [← Hc.out]
          have hstep : crcR C (s.data.toList.take (j + 1)) = c / 256 ^^^ stpN 8 (c % 256 ^^^ (s[j]).toNat) := by
            rw [take_snoc s j hlt2, crcR_snoc, ← Hc.out, crcB_table]
          have HP := Lib.hid hstep
          have hx1 := xor_u8 c s[j]
          have hb := UInt8.toNat_lt s[j]
          have hxl : c % 256 ^^^ (s[j]).toNat < 256 := Nat.xor_lt_two_pow (n := 8) (by omega) (by omega)
          have hx2 := xor_u32 c (stpN 8 (c % 256 ^^^ (s[j]).toNat)) hcl (stpN_lt (by omega) 8)
          have hcell : w2.cell? ⟨T, c % 256 ^^^ (s[j]).toNat, none⟩ = some (.int .u32 (stpN 8 (c % 256 ^^^ (s[j]).toNat) : Nat)) := by
            rw [hrow.cell, tabL_get 256 _ hxl, if_pos hxl]
          clear hstep hrow hC
          go_wp2
          go_round
          case rel => exact ⟨j + 1, by omega, by go_num, by rw [HP.out]⟩
          case measure => simp [intOf]; omega
        · have hj2 : s.data.toList.take j = s.data.toList := List.take_of_length_le (by simp; omega)
          have HJ := Lib.hid hj2
          clear hj2
          go_wp2
          go_round
          case rel => exact ⟨k + 1, by omega, by go_num, by rw [HT.out, crcR_append, HJ.out, HCC.out]⟩
          case measure => simp [intOf]; omega
    · have hall : ss.take k = ss := List.take_of_length_le (by rw [HN.out]; omega)
      have HA := Lib.hid hall
      clear hall
      go_wp2
      go_ret
      refine ⟨ret_int ?_, HB.out⟩
      rw [max_xor _ (crcR_lt _ (by omega)), HA.out]
      rfl
end Go.Proofs.YtlmbijhkpgolaaaDoor
