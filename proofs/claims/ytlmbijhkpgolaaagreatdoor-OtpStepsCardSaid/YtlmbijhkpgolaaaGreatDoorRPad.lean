/- The document's text, padded. -/
import Derived.Test.YtlmbijhkpgolaaaGreatDoorSBlocks
import Derived.Test.YtlmbijhkpgolaaaGreatDoorBuf
namespace Go.Proofs.YtlmbijhkpgolaaaGreatDoor
open Go.RowKit
set_option linter.unusedVariables false

def lenV : Value → Nat
  | .slice _ n _ => n
  | _ => 0
theorem u8_info3 : (Tryz.prog.info? 5).map (fun i => (i.zero, i.size, i.bytes)) = some (some (.int .u8 0), 1, 1) := by kernel_rfl
theorem byte_toNat (x : Nat) : ((UInt8.ofNat (x % 256)).toNat : Int) = ((x : Int) % 256) := by
  rw [UInt8.toNat_ofNat']
  omega

set_option maxRecDepth 20000 in
set_option maxHeartbeats 4000000 in
theorem refPad_any (s : ByteArray) (hs : s.size ≤ 100000) (w : World) :
    Calls Tryz.prog 50 #[.string s] w fun e w' => e = .returned (.string (padB s)) ∧ Below w.heap.size w w' := by
  obtain ⟨i0, hi, hz0, hz1, hz2⟩ : ∃ i0, Tryz.prog.info? 5 = some i0 ∧ i0.zero = some (.int .u8 0) ∧ i0.size = 1 ∧ i0.bytes = 1 := by
    have h := u8_info3
    cases hq : Tryz.prog.info? 5 with
    | none => rw [hq] at h; cases h
    | some i =>
      rw [hq] at h
      simp only [Option.map_some, Option.some.injEq, Prod.mk.injEq] at h
      exact ⟨i, rfl, h.1, h.2.1, h.2.2⟩
  obtain ⟨v1, w1, hcv, hbuf, hb1⟩ := buf_conv (P := Tryz.prog) w 9 43 5 s Tryz.underlying9 Tryz.underlying43 Tryz.underlying5 (by unfold maxLen; omega)
  obtain ⟨a1, c1, rfl⟩ := hbuf.len
  have hsl : s.data.toList.length = s.size := by simp
  rw [hsl] at hcv hbuf
  obtain ⟨z, hz⟩ : ∃ z, (119 - s.size % 64) % 64 = z := ⟨_, rfl⟩
  obtain ⟨m, hm⟩ : ∃ m, s.size * 8 = m := ⟨_, rfl⟩
  have hmi : (s.size : Int) * 8 = (m : Int) := by omega
  have hml : m < 18446744073709551616 := by omega
  have HB := Lib.hid (And.intro hbuf hb1)
  have HI := Lib.hid (And.intro hi (And.intro hz0 (And.intro hz1 hz2)))
  have HZ := Lib.hid (And.intro hz (And.intro hm hsl))
  have hs1 := hb1.size
  clear hbuf hb1 hi hz0 hz1 hz2 hz hm
  go_enter Tryz.func50, Tryz.ntmps50
  go_wp2_with (at_builtin; refine wpList_buf_byte rfl (.tmp 11) (.tmp 12) 43 rfl 5 i0 Tryz.underlying43 HI.out.1 HI.out.2.1 HI.out.2.2.1 HI.out.2.2.2 w1 w.heap.size (.slice a1 s.size c1) s.data.toList rfl HB.out.1 128 128 rfl rfl (by omega) hs1 ?_; intro v2 w2 hb2 hB2)
  go_loopw [4] (fun b wr => ∃ k, k ≤ z ∧ (∃ a c, b = .slice a (s.size + 1 + k) c) ∧ Buf 5 wr w.heap.size b (s.data.toList ++ [128] ++ List.replicate k 0) ∧ Below w.heap.size w wr) (fun b _ => s.size + 200 - lenV b)
  case atStart =>
    refine ⟨0, Nat.zero_le _, ?_, by simpa using hb2, HB.out.2.trans hB2⟩
    obtain ⟨a, c, h⟩ := hb2.len
    rw [List.length_append, hsl] at h
    exact ⟨a, c, h⟩
  case round =>
    obtain ⟨k, hk, ⟨a2, c2, rfl⟩, hb3, hB3⟩ := hrel
    have hs3 := hB3.size
    have hzl : z ≤ 63 := by have := HZ.out.1; omega
    have hlen3 : (s.data.toList ++ [128] ++ List.replicate k 0).length = s.size + 1 + k := by simp [hsl]; omega
    have HB3 := Lib.hid (And.intro hb3 (And.intro hB3 hlen3))
    by_cases hlt : k < z
    · have hne : ¬ ((s.size : Int) + 1 + k) % 64 = 56 := by have := HZ.out.1; omega
      clear hb2 hB2 hb3 hB3 hlen3
      go_wp2_with (at_builtin; refine wpList_buf_byte rfl (.tmp 18) (.tmp 19) 43 rfl 5 i0 Tryz.underlying43 HI.out.1 HI.out.2.1 HI.out.2.2.1 HI.out.2.2.2 wr w.heap.size (.slice a2 (s.size + 1 + k) c2) (s.data.toList ++ [128] ++ List.replicate k 0) rfl HB3.out.1 0 0 rfl rfl (by rw [HB3.out.2.2]; omega) hs3 ?_; intro v4 w4 hb4 hB4)
      go_roundw
      case rel =>
        have e : s.data.toList ++ [128] ++ List.replicate k 0 ++ [0] = s.data.toList ++ [128] ++ List.replicate (k + 1) 0 := by
          rw [List.replicate_succ']; simp only [List.append_assoc]
        rw [e] at hb4
        refine ⟨k + 1, by omega, ?_, hb4, HB3.out.2.1.trans hB4⟩
        obtain ⟨a, c, h⟩ := hb4.len
        have e2 : (s.data.toList ++ [128] ++ List.replicate (k + 1) 0).length = s.size + 1 + (k + 1) := by simp [hsl]; omega
        rw [e2] at h
        exact ⟨a, c, h⟩
      case measure =>
        obtain ⟨a, c, h⟩ := hb4.len
        rw [List.length_append, HB3.out.2.2] at h
        rw [h]
        show s.size + 200 - (s.size + 1 + k + 1) < s.size + 200 - (s.size + 1 + k)
        omega
    · have hkz : k = z := by omega
      have heq : ((s.size : Int) + 1 + k) % 64 = 56 := by have := HZ.out.1; omega
      have HKZ := Lib.hid hkz
      clear hkz hb2 hB2 hb3 hB3 hlen3
      go_wp2_with fail
      clear heq
      go_loopw [4, 5] (fun b i wq => ∃ (q : Nat) (L : List UInt8), q ≤ 8 ∧ i = .int .i64 ((q : Int) - 1) ∧ L.length = 8 - q ∧ L ++ putL m q = putL m 8 ∧ (∃ a c, b = .slice a (s.size + 1 + k + (8 - q)) c) ∧ Buf 5 wq w.heap.size b (s.data.toList ++ [128] ++ List.replicate k 0 ++ L) ∧ Below w.heap.size w wq) (fun _ i _ => (intOf i + 1).toNat)
      case atStart => exact ⟨8, [], by omega, by go_num, rfl, rfl, ⟨a2, c2, rfl⟩, by rw [List.append_nil]; exact HB3.out.1, HB3.out.2.1⟩
      case round =>
        obtain ⟨q, L, hq, rfl, hLl, hL, ⟨a5, c5, rfl⟩, hb5, hB5⟩ := hrel
        have hs5 := hB5.size
        have hlen5 : (s.data.toList ++ [128] ++ List.replicate k 0 ++ L).length = s.size + 1 + k + (8 - q) := by rw [List.length_append, HB3.out.2.2, hLl]
        have H5 := Lib.hid (And.intro hb5 (And.intro hB5 (And.intro hlen5 (And.intro hLl hL))))
        clear hb5 hB5 hlen5 hLl hL
        by_cases h0 : 0 < q
        · obtain ⟨j, rfl⟩ : ∃ j, q = j + 1 := ⟨q - 1, by omega⟩
          rw [putL_cons] at H5
          rcases (by omega : j = 0 ∨ j = 1 ∨ j = 2 ∨ j = 3 ∨ j = 4 ∨ j = 5 ∨ j = 6 ∨ j = 7) with rfl | rfl | rfl | rfl | rfl | rfl | rfl | rfl
          · have hput := H5.out.2.2.2.2
            go_wp2_with (at_builtin; refine wpList_buf_byte rfl (.tmp 25) (.tmp 31) 43 rfl 5 i0 Tryz.underlying43 HI.out.1 HI.out.2.1 HI.out.2.2.1 HI.out.2.2.2 wr w.heap.size (.slice a5 (s.size + 1 + k + (8 - (0 + 1))) c5) (s.data.toList ++ [128] ++ List.replicate k 0 ++ L) rfl H5.out.1 _ (UInt8.ofNat (m / 256 ^ 0 % 256)) (by rw [byte_toNat]; omega) rfl (by rw [H5.out.2.2.1]; omega) hs5 ?_; intro v6 w6 hb6 hB6)
            go_roundw
            case rel =>
              obtain ⟨a, c, h⟩ := hb6.len
              rw [List.length_append, H5.out.2.2.1] at h
              exact ⟨0, L ++ [UInt8.ofNat (m / 256 ^ 0 % 256)], by omega, by go_num, by rw [List.length_append, H5.out.2.2.2.1]; rfl, by rw [List.append_assoc]; exact hput, ⟨a, c, h⟩, by rw [← List.append_assoc]; exact hb6, H5.out.2.1.trans hB6⟩
            case measure => simp [intOf]
          · have hput := H5.out.2.2.2.2
            go_wp2_with (at_builtin; refine wpList_buf_byte rfl (.tmp 25) (.tmp 31) 43 rfl 5 i0 Tryz.underlying43 HI.out.1 HI.out.2.1 HI.out.2.2.1 HI.out.2.2.2 wr w.heap.size (.slice a5 (s.size + 1 + k + (8 - (1 + 1))) c5) (s.data.toList ++ [128] ++ List.replicate k 0 ++ L) rfl H5.out.1 _ (UInt8.ofNat (m / 256 ^ 1 % 256)) (by rw [byte_toNat]; omega) rfl (by rw [H5.out.2.2.1]; omega) hs5 ?_; intro v6 w6 hb6 hB6)
            go_roundw
            case rel =>
              obtain ⟨a, c, h⟩ := hb6.len
              rw [List.length_append, H5.out.2.2.1] at h
              exact ⟨1, L ++ [UInt8.ofNat (m / 256 ^ 1 % 256)], by omega, by go_num, by rw [List.length_append, H5.out.2.2.2.1]; rfl, by rw [List.append_assoc]; exact hput, ⟨a, c, h⟩, by rw [← List.append_assoc]; exact hb6, H5.out.2.1.trans hB6⟩
            case measure => simp [intOf]
          · have hput := H5.out.2.2.2.2
            go_wp2_with (at_builtin; refine wpList_buf_byte rfl (.tmp 25) (.tmp 31) 43 rfl 5 i0 Tryz.underlying43 HI.out.1 HI.out.2.1 HI.out.2.2.1 HI.out.2.2.2 wr w.heap.size (.slice a5 (s.size + 1 + k + (8 - (2 + 1))) c5) (s.data.toList ++ [128] ++ List.replicate k 0 ++ L) rfl H5.out.1 _ (UInt8.ofNat (m / 256 ^ 2 % 256)) (by rw [byte_toNat]; omega) rfl (by rw [H5.out.2.2.1]; omega) hs5 ?_; intro v6 w6 hb6 hB6)
            go_roundw
            case rel =>
              obtain ⟨a, c, h⟩ := hb6.len
              rw [List.length_append, H5.out.2.2.1] at h
              exact ⟨2, L ++ [UInt8.ofNat (m / 256 ^ 2 % 256)], by omega, by go_num, by rw [List.length_append, H5.out.2.2.2.1]; rfl, by rw [List.append_assoc]; exact hput, ⟨a, c, h⟩, by rw [← List.append_assoc]; exact hb6, H5.out.2.1.trans hB6⟩
            case measure => simp [intOf]
          · have hput := H5.out.2.2.2.2
            go_wp2_with (at_builtin; refine wpList_buf_byte rfl (.tmp 25) (.tmp 31) 43 rfl 5 i0 Tryz.underlying43 HI.out.1 HI.out.2.1 HI.out.2.2.1 HI.out.2.2.2 wr w.heap.size (.slice a5 (s.size + 1 + k + (8 - (3 + 1))) c5) (s.data.toList ++ [128] ++ List.replicate k 0 ++ L) rfl H5.out.1 _ (UInt8.ofNat (m / 256 ^ 3 % 256)) (by rw [byte_toNat]; omega) rfl (by rw [H5.out.2.2.1]; omega) hs5 ?_; intro v6 w6 hb6 hB6)
            go_roundw
            case rel =>
              obtain ⟨a, c, h⟩ := hb6.len
              rw [List.length_append, H5.out.2.2.1] at h
              exact ⟨3, L ++ [UInt8.ofNat (m / 256 ^ 3 % 256)], by omega, by go_num, by rw [List.length_append, H5.out.2.2.2.1]; rfl, by rw [List.append_assoc]; exact hput, ⟨a, c, h⟩, by rw [← List.append_assoc]; exact hb6, H5.out.2.1.trans hB6⟩
            case measure => simp [intOf]
          · have hput := H5.out.2.2.2.2
            go_wp2_with (at_builtin; refine wpList_buf_byte rfl (.tmp 25) (.tmp 31) 43 rfl 5 i0 Tryz.underlying43 HI.out.1 HI.out.2.1 HI.out.2.2.1 HI.out.2.2.2 wr w.heap.size (.slice a5 (s.size + 1 + k + (8 - (4 + 1))) c5) (s.data.toList ++ [128] ++ List.replicate k 0 ++ L) rfl H5.out.1 _ (UInt8.ofNat (m / 256 ^ 4 % 256)) (by rw [byte_toNat]; omega) rfl (by rw [H5.out.2.2.1]; omega) hs5 ?_; intro v6 w6 hb6 hB6)
            go_roundw
            case rel =>
              obtain ⟨a, c, h⟩ := hb6.len
              rw [List.length_append, H5.out.2.2.1] at h
              exact ⟨4, L ++ [UInt8.ofNat (m / 256 ^ 4 % 256)], by omega, by go_num, by rw [List.length_append, H5.out.2.2.2.1]; rfl, by rw [List.append_assoc]; exact hput, ⟨a, c, h⟩, by rw [← List.append_assoc]; exact hb6, H5.out.2.1.trans hB6⟩
            case measure => simp [intOf]
          · have hput := H5.out.2.2.2.2
            go_wp2_with (at_builtin; refine wpList_buf_byte rfl (.tmp 25) (.tmp 31) 43 rfl 5 i0 Tryz.underlying43 HI.out.1 HI.out.2.1 HI.out.2.2.1 HI.out.2.2.2 wr w.heap.size (.slice a5 (s.size + 1 + k + (8 - (5 + 1))) c5) (s.data.toList ++ [128] ++ List.replicate k 0 ++ L) rfl H5.out.1 _ (UInt8.ofNat (m / 256 ^ 5 % 256)) (by rw [byte_toNat]; omega) rfl (by rw [H5.out.2.2.1]; omega) hs5 ?_; intro v6 w6 hb6 hB6)
            go_roundw
            case rel =>
              obtain ⟨a, c, h⟩ := hb6.len
              rw [List.length_append, H5.out.2.2.1] at h
              exact ⟨5, L ++ [UInt8.ofNat (m / 256 ^ 5 % 256)], by omega, by go_num, by rw [List.length_append, H5.out.2.2.2.1]; rfl, by rw [List.append_assoc]; exact hput, ⟨a, c, h⟩, by rw [← List.append_assoc]; exact hb6, H5.out.2.1.trans hB6⟩
            case measure => simp [intOf]
          · have hput := H5.out.2.2.2.2
            go_wp2_with (at_builtin; refine wpList_buf_byte rfl (.tmp 25) (.tmp 31) 43 rfl 5 i0 Tryz.underlying43 HI.out.1 HI.out.2.1 HI.out.2.2.1 HI.out.2.2.2 wr w.heap.size (.slice a5 (s.size + 1 + k + (8 - (6 + 1))) c5) (s.data.toList ++ [128] ++ List.replicate k 0 ++ L) rfl H5.out.1 _ (UInt8.ofNat (m / 256 ^ 6 % 256)) (by rw [byte_toNat]; omega) rfl (by rw [H5.out.2.2.1]; omega) hs5 ?_; intro v6 w6 hb6 hB6)
            go_roundw
            case rel =>
              obtain ⟨a, c, h⟩ := hb6.len
              rw [List.length_append, H5.out.2.2.1] at h
              exact ⟨6, L ++ [UInt8.ofNat (m / 256 ^ 6 % 256)], by omega, by go_num, by rw [List.length_append, H5.out.2.2.2.1]; rfl, by rw [List.append_assoc]; exact hput, ⟨a, c, h⟩, by rw [← List.append_assoc]; exact hb6, H5.out.2.1.trans hB6⟩
            case measure => simp [intOf]
          · have hput := H5.out.2.2.2.2
            go_wp2_with (at_builtin; refine wpList_buf_byte rfl (.tmp 25) (.tmp 31) 43 rfl 5 i0 Tryz.underlying43 HI.out.1 HI.out.2.1 HI.out.2.2.1 HI.out.2.2.2 wr w.heap.size (.slice a5 (s.size + 1 + k + (8 - (7 + 1))) c5) (s.data.toList ++ [128] ++ List.replicate k 0 ++ L) rfl H5.out.1 _ (UInt8.ofNat (m / 256 ^ 7 % 256)) (by rw [byte_toNat]; omega) rfl (by rw [H5.out.2.2.1]; omega) hs5 ?_; intro v6 w6 hb6 hB6)
            go_roundw
            case rel =>
              obtain ⟨a, c, h⟩ := hb6.len
              rw [List.length_append, H5.out.2.2.1] at h
              exact ⟨7, L ++ [UInt8.ofNat (m / 256 ^ 7 % 256)], by omega, by go_num, by rw [List.length_append, H5.out.2.2.2.1]; rfl, by rw [List.append_assoc]; exact hput, ⟨a, c, h⟩, by rw [← List.append_assoc]; exact hb6, H5.out.2.1.trans hB6⟩
            case measure => simp [intOf]
        · have hq0 : q = 0 := by omega
          subst hq0
          have hLe : L = putL m 8 := by have h := H5.out.2.2.2.2; simpa [putL] using h
          have htx : (convert 43 9 (.slice a5 (s.size + 1 + k + 8) c5)).run Tryz.prog wr = .ok (.string (padB s)) wr := by
            have h := Buf.text (P := Tryz.prog) (src := 43) (dst := 9) H5.out.1 Tryz.underlying43 Tryz.underlying5 Tryz.underlying9
            have e : padB s = ⟨(s.data.toList ++ [128] ++ List.replicate k 0 ++ L).toArray⟩ := by
              unfold padB padL endL
              rw [hLe, HKZ.out, ← HZ.out.1, HZ.out.2.2, ← HZ.out.2.1]
              simp
            rw [e]
            exact h
          go_wp2_with fail
          go_ret
          exact ⟨rfl, H5.out.2.1⟩
end Go.Proofs.YtlmbijhkpgolaaaGreatDoor
