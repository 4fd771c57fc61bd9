/- The statement of LogPlays: whatever comes in, the law answers true, and what came in reads as it did. (In one text with what it leans on: LogFramesW, LEq, LPy7, LCome, LogPlays.) -/
import Derived.Deep.QuietTactic
import Derived.BigQuiet
import Derived.ProofKit
import Derived.OpenShut
import Derived.ShutString
import Derived.Deep.DeepHandedRow
import Derived.Deep.Slices
import Derived.Deep.Strs
import Derived.WalkKit
import Derived.SizedLaws
import Derived.LaidMore
import Derived.Lay
import Derived.Stop.Joined
import Derived.SevenTiedAt
import Derived.Test.YtiaaeniopjpfpaaGreatDoorLogPlaysAll2
import Derived.Test.YtiaaeniopjpfpaaGreatDoorLogPlaysAll3
import Derived.Test.YtiaaeniopjpfpaaGreatDoorRows
import Derived.Test.YtiaaeniopjpfpaaGreatDoorKActs
import Derived.Test.YtiaaeniopjpfpaaGreatDoorCards
import Derived.Test.YtiaaeniopjpfpaaGreatDoorTie
import Derived.Test.YtiaaeniopjpfpaaGreatDoorLaidL
namespace Go.Proofs.YtiaaeniopjpfpaaGreatDoor
open Go.RowKit Go.Maps Go.Shelf
set_option linter.unusedVariables false
set_option linter.unusedSimpArgs false
attribute [local go_sem] Oper.semAt_some

theorem framesF_mem : ∀ (k n e : Nat) (s : List UInt8) (x : Nat × List UInt8), x ∈ framesF k n e s → x.2.length + 28 ≤ s.length := by
  intro k
  induction k with
  | zero => intro n e s x h; exact absurd h (by simp [framesF])
  | succ k ih =>
    intro n e s x h
    cases hf : framedL n s with
    | none => rw [framesF_none hf] at h; exact absurd h (by simp)
    | some t =>
      have hl := framedL_le hf
      rw [framesF_some hf] at h
      rcases List.mem_cons.1 h with rfl | h
      · exact hl
      · have := ih _ _ _ _ h
        rw [List.length_drop] at this
        omega

theorem row_item {wm W' : World} {ws m i B S vc : Nat} {va : Option Addr} {e : TypeId} {xs : List Value} {v : Value} (h : wm.ownsRow ws e 1 (.slice va m vc) m xs) (hb : ∀ g, Value.ownBlock (.slice va m vc) = some g → g ≠ B)
    (hk : Keeps (fun k => k < S ∧ k ≠ B) wm W') (hS : wm.heap.size = S) (hi : xs[i]? = some v) : ∃ g, va = some ⟨g, 0, none⟩ ∧ W'.cell? ⟨g, i, none⟩ = some v := by
  have hxl := h.1
  have hil : i < m := by have := (List.getElem?_eq_some_iff.1 hi).1; omega
  rcases id h.2 with ⟨h1, h2⟩ | ⟨g, cap, cur, h1, _, hg, _⟩
  · omega
  · injection h1 with e1 _ e2
    subst e1 e2
    have hgl := (Array.getElem?_eq_some_iff.1 hg).1
    have hgB : g ≠ B := hb g rfl
    refine ⟨g, rfl, ?_⟩
    rw [World.cell?_of_block (w := wm) (a := ⟨g, i, none⟩) (hk.block g hgl ⟨by omega, hgB⟩), h.cellAt i (by omega), hi]

set_option maxRecDepth 100000 in
set_option maxHeartbeats 4000000 in
theorem LogFrames_walk (s : ByteArray) (lv : Value) (l : List ByteArray) (w : World) (hs : s.size ≤ 140737488355328) (hv : Strs w lv l) (hl : l.length ≤ 9223372036854775807) (hG : G w) :
    Calls Tryz.prog 4 #[.string s, lv] w fun e w' => e = .returned (.bool true) ∧ Below w.heap.size w w' := by
  obtain ⟨a0, cap, b, off, rfl, hb0, hcl⟩ := hv
  obtain ⟨n, hn⟩ : ∃ n, l.length = n := ⟨_, rfl⟩
  rw [hn] at hl hb0 hcl ⊢
  refine (callsIn_wide (n := 6)).1 ?_
  refine callsIn_of_wp_marks Tryz.func4 rfl trivial ?_ rfl
  simp only [Tryz.ntmps4, List.size_toArray, List.length_cons, List.length_nil, Nat.reduceAdd, Nat.reduceSub, Array.replicate_succ, Array.replicate_zero, List.push_toArray, List.append_toArray, List.nil_append, List.cons_append]
  rw [wpIn_wide]
  have b1 := Boxed.new w 4 (.bool false)
  have hB1 : Below w.heap.size w (w.alloc (.cells #[.bool false] 4)) := (Below.refl _ _).alloc (Nat.le_refl _) _
  have hz1 : (w.alloc (.cells #[.bool false] 4)).heap.size = w.heap.size + 1 := by simp
  have HG := Lib.hid hG
  have H0 := Lib.hid (And.intro b1 (And.intro hB1 hz1))
  have HC := Lib.hid (And.intro hb0 (And.intro hcl hn))
  clear b1 hB1 hz1 hG hb0 hcl hn
  obtain ⟨rb, hrb⟩ : ∃ rb, w.heap.size = rb := ⟨_, rfl⟩
  have HRB := Lib.hid hrb
  rw [hrb] at H0
  go_wp2_with fail
  refine (awake12_any _ (HG.out.below (by rw [hrb]; exact H0.out.2.1))).mono ?_
  rintro e wa ⟨rfl, hb1⟩
  have HA : Hid (Boxed wa rb 4 (.bool false) ∧ Below rb w wa ∧ rb + 1 ≤ wa.heap.size) := Lib.hid
    ⟨(hb1.block rb (by rw [H0.out.2.2]; omega)).trans H0.out.1, H0.out.2.1.trans (hb1.mono (by rw [H0.out.2.2]; omega)), by have := hb1.size; rw [H0.out.2.2] at this; exact this⟩
  clear hb1 H0
  by_cases hbig : s.size ≤ 2000 ∧ n ≤ 10
  · obtain ⟨hs2, hn2⟩ := hbig
    have hor : (decide ((2000 : Int) < (s.size : Int)) || decide ((10 : Int) < (n : Int))) = false := by simp; omega
    go_wp2_with fail
    go_loopw [5, 27] (fun t i wr => ∃ (j : Nat) (A : ByteArray), j ≤ n ∧ i = .int .i64 j ∧ t = .string A ∧ A.size ≤ j * 328 ∧ Hid (Boxed wr rb 4 (.bool false) ∧ Below rb w wr ∧ rb + 1 ≤ wr.heap.size)) (fun _ i _ => n - (intOf i).toNat)
    case atStart => exact ⟨0, _, Nat.zero_le _, rfl, rfl, Nat.zero_le _, HA⟩
    case round =>
      obtain ⟨j, A, hj, rfl, rfl, hAs, HW⟩ := hrel
      by_cases hlt : j < n
      · obtain ⟨rfl, hbw⟩ := HC.out.1 (by omega)
        have hx := HC.out.2.1 j hlt
        obtain ⟨x, HX⟩ : ∃ x, Hid (l.getD j ByteArray.empty = x) := ⟨_, Lib.hid rfl⟩
        rw [HX.out] at hx
        have hxw := (HW.out.2.1.cell (p := ⟨b, off + j, none⟩) (by show b < rb; omega)).trans hx
        clear hx
        by_cases hxs : x.size ≤ 300
        · obtain ⟨X, hX⟩ : ∃ X, x.data.toList = X := ⟨_, rfl⟩
          have hxe : x = tx X := by rw [← hX, tx_self]
          obtain ⟨F, hF⟩ : ∃ F, tx (frameL (j + 1) X) = F := ⟨_, rfl⟩
          have hFs : F.size = 28 + x.size := by rw [← hF, tx_size, frameL_length, hxe, tx_size]
          have HFR : Hid (∀ W, Calls Tryz.prog 25 #[.int .i64 ((j : Int) + 1), .string x] W fun e w' => e = .returned (.string F) ∧ Below W.heap.size W w') := Lib.hid fun W => by
            have h := refFrame_any (j + 1) X (by omega) (by rw [← tx_size, ← hxe]; omega) W
            rw [hF, ← hxe, show ((j + 1 : Nat) : Int) = (j : Int) + 1 by omega] at h
            exact h
          have hsz : (A ++ F).size ≤ (j + 1) * 328 := by rw [ByteArray.size_append]; omega
          have HZ := Lib.hid hsz
          have hAF : A.size + F.size ≤ 100000 := by omega
          clear hX hxe hF hsz
          go_wp2_with (go_at_call 25; refine (HFR.out _).mono ?_; rintro e w2 ⟨rfl, hb2⟩)
          go_roundw
          case rel => exact ⟨j + 1, A ++ F, by omega, by go_num, rfl, HZ.out, Lib.hid ⟨(hb2.block rb (by have := HW.out.2.2; omega)).trans HW.out.1, HW.out.2.1.trans (hb2.mono (by have := HW.out.2.2; omega)), by have := hb2.size; have := HW.out.2.2; omega⟩⟩
          case measure => simp [intOf]; omega
        · have hcR := HW.out.1.cell
          have hfR := HW.out.1.frozen
          go_wp2_with fail
          have hvR := HW.out.1.set (.bool true)
          have hR := hvR.cell
          exact ⟨_, (by simp [results, Tryz.f4, go_sem, hR]), rfl, HW.out.2.1.setCell (p := ⟨rb, 0, none⟩) (Nat.le_refl _) _⟩
      · have hjn : j = n := by omega
        have hA2 : A.size ≤ 3280 := by omega
        clear hj hjn hAs
        go_wp2_with fail
        obtain ⟨b3, hb3⟩ : ∃ b3, wr.heap.size = b3 := ⟨_, rfl⟩
        have HR : Hid (Boxed (wr.alloc (.cells #[.string s, .string A, .string (A ++ s)] 9)) rb 4 (.bool false) ∧ Below rb w (wr.alloc (.cells #[.string s, .string A, .string (A ++ s)] 9)) ∧ Row (wr.alloc (.cells #[.string s, .string A, .string (A ++ s)] 9)) b3 9 [.string s, .string A, .string (A ++ s)] ∧ rb < b3) := Lib.hid (by
          have h := Row.new wr 9 [.string s, .string A, .string (A ++ s)]
          rw [hb3] at h
          exact ⟨HW.out.1.alloc _, HW.out.2.1.alloc (by have := HW.out.2.2; omega) _, h, by have := HW.out.2.2; omega⟩)
        rw [hb3]
        generalize (wr.alloc (.cells #[.string s, .string A, .string (A ++ s)] 9)) = wl at HR ⊢
        clear HW
        refine wp_loop (fun a' W => ∃ (x0 x1 x2 x3 x5 x6 x7 x8 x9 x10 x11 x12 x13 x14 x15 x16 x17 x18 x19 x20 x21 x22 x23 x24 x25 x26 x27 x28 x29 x30 x31 x32 x33 x34 x35 x36 x37 x38 x39 x40 x41 x42 x43 x44 x45 x46 x50 x51 x52 x53 x54 x55 x56 x57 x58 x59 x60 x61 x62 x63 x64 x65 x66 x67 x68 x69 x70 x71 x72 x73 x74 x75 x76 x77 x78 x79 x80 x81 x82 x83 x84 x85 x86 x87 x88 x89 x90 x91 x92 x93 x94 x95 x96 x97 : Value) (j : Nat) (Ds : List Nat), a' = { tmps := [x0, x1, x2, x3, .pointer (some ⟨rb, 0, none⟩), x5, x6, x7, x8, x9, x10, x11, x12, x13, x14, x15, x16, x17, x18, x19, x20, x21, x22, x23, x24, x25, x26, x27, x28, x29, x30, x31, x32, x33, x34, x35, x36, x37, x38, x39, x40, x41, x42, x43, x44, x45, x46, .slice (some ⟨b3, 0, none⟩) 3 3, .int .i64 3, .int .i64 (j : Nat), x50, x51, x52, x53, x54, x55, x56, x57, x58, x59, x60, x61, x62, x63, x64, x65, x66, x67, x68, x69, x70, x71, x72, x73, x74, x75, x76, x77, x78, x79, x80, x81, x82, x83, x84, x85, x86, x87, x88, x89, x90, x91, x92, x93, x94, x95, x96, x97].toArray, defers := Ds.map fun D => { target := .collected D, args := #[] } } ∧ j ≤ 3 ∧
          Hid (Ds.length = j ∧ Ds.Nodup ∧ (∀ D ∈ Ds, rb < D ∧ W.heap[D]? = some (.deferred (some []))) ∧ Boxed W rb 4 (.bool false) ∧ Below rb w W ∧ Row W b3 9 [.string s, .string A, .string (A ++ s)] ∧ rb < b3)) (fun a' W => 3 - (intOf (a'.tmps.getD 49 undef)).toNat) ?h0 ?hround
        case h0 => exact ⟨_, _, _, _, _, _, _, _, _, _, _, _, _, _, _, _, _, _, _, _, _, _, _, _, _, _, _, _, _, _, _, _, _, _, _, _, _, _, _, _, _, _, _, _, _, _, _, _, _, _, _, _, _, _, _, _, _, _, _, _, _, _, _, _, _, _, _, _, _, _, _, _, _, _, _, _, _, _, _, _, _, _, _, _, _, _, _, _, _, _, _, _, _, _, 0, [], rfl, Nat.zero_le _, Lib.hid ⟨rfl, List.nodup_nil, fun D h => absurd h (by simp), HR.out.1, HR.out.2.1, HR.out.2.2.1, HR.out.2.2.2⟩⟩
        case hround =>
          intro a' W hinv
          obtain ⟨x0, hinv⟩ := hinv
          obtain ⟨x1, hinv⟩ := hinv
          obtain ⟨x2, hinv⟩ := hinv
          obtain ⟨x3, hinv⟩ := hinv
          obtain ⟨x5, hinv⟩ := hinv
          obtain ⟨x6, hinv⟩ := hinv
          obtain ⟨x7, hinv⟩ := hinv
          obtain ⟨x8, hinv⟩ := hinv
          obtain ⟨x9, hinv⟩ := hinv
          obtain ⟨x10, hinv⟩ := hinv
          obtain ⟨x11, hinv⟩ := hinv
          obtain ⟨x12, hinv⟩ := hinv
          obtain ⟨x13, hinv⟩ := hinv
          obtain ⟨x14, hinv⟩ := hinv
          obtain ⟨x15, hinv⟩ := hinv
          obtain ⟨x16, hinv⟩ := hinv
          obtain ⟨x17, hinv⟩ := hinv
          obtain ⟨x18, hinv⟩ := hinv
          obtain ⟨x19, hinv⟩ := hinv
          obtain ⟨x20, hinv⟩ := hinv
          obtain ⟨x21, hinv⟩ := hinv
          obtain ⟨x22, hinv⟩ := hinv
          obtain ⟨x23, hinv⟩ := hinv
          obtain ⟨x24, hinv⟩ := hinv
          obtain ⟨x25, hinv⟩ := hinv
          obtain ⟨x26, hinv⟩ := hinv
          obtain ⟨x27, hinv⟩ := hinv
          obtain ⟨x28, hinv⟩ := hinv
          obtain ⟨x29, hinv⟩ := hinv
          obtain ⟨x30, hinv⟩ := hinv
          obtain ⟨x31, hinv⟩ := hinv
          obtain ⟨x32, hinv⟩ := hinv
          obtain ⟨x33, hinv⟩ := hinv
          obtain ⟨x34, hinv⟩ := hinv
          obtain ⟨x35, hinv⟩ := hinv
          obtain ⟨x36, hinv⟩ := hinv
          obtain ⟨x37, hinv⟩ := hinv
          obtain ⟨x38, hinv⟩ := hinv
          obtain ⟨x39, hinv⟩ := hinv
          obtain ⟨x40, hinv⟩ := hinv
          obtain ⟨x41, hinv⟩ := hinv
          obtain ⟨x42, hinv⟩ := hinv
          obtain ⟨x43, hinv⟩ := hinv
          obtain ⟨x44, hinv⟩ := hinv
          obtain ⟨x45, hinv⟩ := hinv
          obtain ⟨x46, hinv⟩ := hinv
          obtain ⟨x50, hinv⟩ := hinv
          obtain ⟨x51, hinv⟩ := hinv
          obtain ⟨x52, hinv⟩ := hinv
          obtain ⟨x53, hinv⟩ := hinv
          obtain ⟨x54, hinv⟩ := hinv
          obtain ⟨x55, hinv⟩ := hinv
          obtain ⟨x56, hinv⟩ := hinv
          obtain ⟨x57, hinv⟩ := hinv
          obtain ⟨x58, hinv⟩ := hinv
          obtain ⟨x59, hinv⟩ := hinv
          obtain ⟨x60, hinv⟩ := hinv
          obtain ⟨x61, hinv⟩ := hinv
          obtain ⟨x62, hinv⟩ := hinv
          obtain ⟨x63, hinv⟩ := hinv
          obtain ⟨x64, hinv⟩ := hinv
          obtain ⟨x65, hinv⟩ := hinv
          obtain ⟨x66, hinv⟩ := hinv
          obtain ⟨x67, hinv⟩ := hinv
          obtain ⟨x68, hinv⟩ := hinv
          obtain ⟨x69, hinv⟩ := hinv
          obtain ⟨x70, hinv⟩ := hinv
          obtain ⟨x71, hinv⟩ := hinv
          obtain ⟨x72, hinv⟩ := hinv
          obtain ⟨x73, hinv⟩ := hinv
          obtain ⟨x74, hinv⟩ := hinv
          obtain ⟨x75, hinv⟩ := hinv
          obtain ⟨x76, hinv⟩ := hinv
          obtain ⟨x77, hinv⟩ := hinv
          obtain ⟨x78, hinv⟩ := hinv
          obtain ⟨x79, hinv⟩ := hinv
          obtain ⟨x80, hinv⟩ := hinv
          obtain ⟨x81, hinv⟩ := hinv
          obtain ⟨x82, hinv⟩ := hinv
          obtain ⟨x83, hinv⟩ := hinv
          obtain ⟨x84, hinv⟩ := hinv
          obtain ⟨x85, hinv⟩ := hinv
          obtain ⟨x86, hinv⟩ := hinv
          obtain ⟨x87, hinv⟩ := hinv
          obtain ⟨x88, hinv⟩ := hinv
          obtain ⟨x89, hinv⟩ := hinv
          obtain ⟨x90, hinv⟩ := hinv
          obtain ⟨x91, hinv⟩ := hinv
          obtain ⟨x92, hinv⟩ := hinv
          obtain ⟨x93, hinv⟩ := hinv
          obtain ⟨x94, hinv⟩ := hinv
          obtain ⟨x95, hinv⟩ := hinv
          obtain ⟨x96, hinv⟩ := hinv
          obtain ⟨x97, hinv⟩ := hinv
          obtain ⟨j, Ds, ha, hj, HW⟩ := hinv
          subst ha
          try dsimp only
          by_cases hlt : j < 3
          · obtain ⟨X, hX⟩ : ∃ X, ([s, A, A ++ s].getD j ByteArray.empty).data.toList = X := ⟨_, rfl⟩
            have hxe : [s, A, A ++ s].getD j ByteArray.empty = tx X := by rw [← hX, tx_self]
            have hXl : X.length ≤ 5280 := by
              rw [← hX]
              show ([s, A, A ++ s].getD j ByteArray.empty).size ≤ 5280
              rcases (by omega : j = 0 ∨ j = 1 ∨ j = 2) with rfl | rfl | rfl
              · show s.size ≤ 5280; omega
              · show A.size ≤ 5280; omega
              · show (A ++ s).size ≤ 5280; rw [ByteArray.size_append]; omega
            have hx : W.cell? ⟨b3, j, none⟩ = some (.string (tx X)) := by
              rw [HW.out.2.2.2.2.2.1.cell, ← hxe]
              rcases (by omega : j = 0 ∨ j = 1 ∨ j = 2) with rfl | rfl | rfl <;> rfl
            have hFR := Lib.hid (fun W => refFrames_any X (by omega) W)
            obtain ⟨m, hm⟩ : ∃ m, (framesL X).length = m := ⟨_, rfl⟩
            rw [hm] at hFR
            have HM := Lib.hid hm
            have HXL := Lib.hid hXl
            clear hX hxe hXl hm
            obtain ⟨Y, hY⟩ : ∃ Y, tx X = Y := ⟨_, rfl⟩
            rw [hY] at hx hFR
            go_wp2_with fail
            refine (hFR.out _).mono ?_
            rintro e w1 ⟨v, u, rfl, hv1, hu1, hb1⟩
            obtain ⟨va, vc, rfl⟩ := own_slice hv1
            obtain ⟨ua, uc, rfl⟩ := own_slice hu1
            have H1 := Lib.hid (And.intro hv1 (And.intro hu1 hb1))
            clear hv1 hu1 hb1
            go_wp2_with fail
            refine ((callsIn_wide (n := 0)).1 (Frames_in 0 Y _)).mono ?_
            rintro e w4 ⟨rfl, rfl⟩
            go_wp2_with fail
            obtain ⟨c0, hc0⟩ : ∃ c, w1.heap.size = c := ⟨_, rfl⟩
            obtain ⟨ws, hws⟩ : ∃ ws, W.heap.size = ws := ⟨_, rfl⟩
            have H5 : Hid ((Boxed ((((w1.alloc (.cells #[.slice va m vc] 31)).alloc (.cells #[.slice ua m uc] 55)).alloc (.cells #[.int .i64 0] 3)).alloc (.cells #[.string Y] 9)) c0 31 (.slice va m vc) ∧
                Boxed ((((w1.alloc (.cells #[.slice va m vc] 31)).alloc (.cells #[.slice ua m uc] 55)).alloc (.cells #[.int .i64 0] 3)).alloc (.cells #[.string Y] 9)) (c0 + 1) 55 (.slice ua m uc) ∧
                Boxed ((((w1.alloc (.cells #[.slice va m vc] 31)).alloc (.cells #[.slice ua m uc] 55)).alloc (.cells #[.int .i64 0] 3)).alloc (.cells #[.string Y] 9)) (c0 + 2) 3 (.int .i64 0) ∧
                Boxed ((((w1.alloc (.cells #[.slice va m vc] 31)).alloc (.cells #[.slice ua m uc] 55)).alloc (.cells #[.int .i64 0] 3)).alloc (.cells #[.string Y] 9)) (c0 + 3) 9 (.string Y)) ∧
                (((((w1.alloc (.cells #[.slice va m vc] 31)).alloc (.cells #[.slice ua m uc] 55)).alloc (.cells #[.int .i64 0] 3)).alloc (.cells #[.string Y] 9)).ownsRow ws 9 1 (.slice va m vc) m ((framesL X).map fun x => Value.string (tx x.2)) ∧
                ((((w1.alloc (.cells #[.slice va m vc] 31)).alloc (.cells #[.slice ua m uc] 55)).alloc (.cells #[.int .i64 0] 3)).alloc (.cells #[.string Y] 9)).ownsRow ws 3 1 (.slice ua m uc) m ((framesL X).map fun x => Value.int .i64 (x.1 : Nat))) ∧
                Below ws W ((((w1.alloc (.cells #[.slice va m vc] 31)).alloc (.cells #[.slice ua m uc] 55)).alloc (.cells #[.int .i64 0] 3)).alloc (.cells #[.string Y] 9)) ∧ ws ≤ c0 ∧
                ((((w1.alloc (.cells #[.slice va m vc] 31)).alloc (.cells #[.slice ua m uc] 55)).alloc (.cells #[.int .i64 0] 3)).alloc (.cells #[.string Y] 9)).heap.size = c0 + 4) := Lib.hid (by
              have g1 := H1.out.2.2.size
              rw [hws] at g1 H1
              rw [hc0] at g1
              have k1 := Boxed.new w1 31 (.slice va m vc)
              have k2 := Boxed.new (w1.alloc (.cells #[.slice va m vc] 31)) 55 (.slice ua m uc)
              have k3 := Boxed.new ((w1.alloc (.cells #[.slice va m vc] 31)).alloc (.cells #[.slice ua m uc] 55)) 3 (.int .i64 0)
              have k4 := Boxed.new (((w1.alloc (.cells #[.slice va m vc] 31)).alloc (.cells #[.slice ua m uc] 55)).alloc (.cells #[.int .i64 0] 3)) 9 (.string Y)
              simp only [World.size_alloc, hc0] at k1 k2 k3 k4
              refine ⟨⟨((k1.alloc _).alloc _).alloc _, (k2.alloc _).alloc _, k3.alloc _, k4⟩, ⟨(((H1.out.1.alloc _).alloc _).alloc _).alloc _, (((H1.out.2.1.alloc _).alloc _).alloc _).alloc _⟩, ?_, g1, ?_⟩
              · exact (((H1.out.2.2.alloc (by omega) _).alloc (by rw [World.size_alloc]; omega) _).alloc (by rw [World.size_alloc, World.size_alloc]; omega) _).alloc (by rw [World.size_alloc, World.size_alloc, World.size_alloc]; omega) _
              · simp only [World.size_alloc, hc0])
            rw [hc0]
            generalize ((((w1.alloc (.cells #[.slice va m vc] 31)).alloc (.cells #[.slice ua m uc] 55)).alloc (.cells #[.int .i64 0] 3)).alloc (.cells #[.string Y] 9)) = wm at H5 ⊢
            have hrbs0 : rb < ws := by rw [← hws]; exact HW.out.2.2.2.1.lt
            have hBW : Below w.heap.size w wm := by
              have h := H5.out.2.2.1
              have h2 := HW.out.2.2.2.2.1
              rw [hrb]
              exact h2.trans (h.mono (Nat.le_of_lt hrbs0))
            have hGm : G wm := HG.out.below hBW
            have hgs : 0 < rb := by rw [← hrb]; exact HG.out.lt
            have hrbs : rb < ws := by rw [← hws]; exact HW.out.2.2.2.1.lt
            have hsz : wm.heap.size = c0 + 4 := H5.out.2.2.2.2
            have hwc := H5.out.2.2.2.1
            have hbm : wm.heap[c0 + 3]? = some (.cells #[.string (tx X)] 9 (0, 0)) := by rw [hY]; exact H5.out.1.2.2.2
            rw [← wpIn_wide (n := 6)]
            refine' wpIn_rangeFunc_ownG rfl (by omega) (gf := 64) (lb := #[.pointer (some ⟨c0 + 3, 0, none⟩)]) rfl trivial (enters_of Tryz.func64 (by kernel_rfl) rfl)
              (Frames_stops 5 (by omega) (c0 + 3) X (by have := HXL.out; omega) wm hGm hbm) keepsF_t (keepsF_b (by omega) (by omega)) (Below.refl _ _) (fun _ => rfl)
              (fun (pre : List (Nat × List UInt8)) W' => pre <+: framesL X ∧ Boxed W' (c0 + 2) 3 (.int .i64 (pre.length : Nat)) ∧ Keeps (fun k => k < c0 + 4 ∧ k ≠ c0 + 2) wm W')
              (fun _ pre _ => ¬ pre <+: framesL X)
              (OwnFrom.and own_pure_s (OwnFrom.and (Own.from (own_box (c0 + 2) 3 (fun pre : List (Nat × List UInt8) => .int .i64 (pre.length : Nat))) _) (ownFrom_keeps (by omega))))
              (fun _ => own_pure_s)
              ⟨List.nil_prefix, H5.out.1.2.2.1, Keeps.refl _ _⟩
              _ _ _ _ _
            case refine'_2 =>
              intro l x W K hK
              gi_wp2
              exact hK
            case refine'_5 =>
              rintro D c pre W _ hp h _
              exact absurd hp h
            case refine'_3 =>
              rintro l' pre x W' ⟨hpre, hbi, hk⟩ hlt'
              have hb10 : Boxed W' c0 31 (.slice va m vc) := (hk.block c0 (by omega) ⟨by omega, by omega⟩).trans H5.out.1.1
              have hb11 : Boxed W' (c0 + 1) 55 (.slice ua m uc) := (hk.block (c0 + 1) (by omega) ⟨by omega, by omega⟩).trans H5.out.1.2.1
              have hbr : Boxed W' rb 4 (.bool false) := (hk.block rb (by omega) ⟨by omega, by omega⟩).trans ((H5.out.2.2.1.block rb hrbs0).trans HW.out.2.2.2.1)
              have hml : (framesL X).length = m := HM.out
              have hfl : (framesL X).length ≤ X.length := framesF_length _ _ _ _
              have hXl : X.length ≤ 5280 := HXL.out
              obtain ⟨i, hi⟩ : ∃ i, pre.length = i := ⟨_, rfl⟩
              have hsz' := hk.size
              rw [hi] at hbi
              obtain ⟨xa, xt⟩ := x
              obtain ⟨c, hc⟩ : ∃ c, xt.length = c := ⟨_, rfl⟩
              have hT : (tx xt).size = c := by rw [tx_size, hc]
              have c10 := hb10.cell
              have c11 := hb11.cell
              have ci := hbi.cell
              have fi := hbi.frozen
              have cr := hbr.cell
              have fr := hbr.frozen
              have hiI : (i : Int) < 5280 := by omega
              have hmI : (m : Int) ≤ 5280 := by omega
              by_cases him : m ≤ i
              · have HN : Hid (¬ (pre ++ [(xa, xt)]) <+: framesL X) := Lib.hid (fun h => by have := h.length_le; rw [List.length_append, List.length_singleton, hi, hml] at this; omega)
                have him' : (m : Int) ≤ (i : Int) := by omega
                clear hpre hml hfl hXl hi him
                dsimp only
                gi_wp2
                refine ⟨trivial, ?_⟩
                gi_wp2
                refine ⟨trivial, ?_⟩
                gi_wp2
                exact ⟨(KeepsOthers.setCell _ _ _).from _, HN.out⟩
              · obtain ⟨⟨ya, yt⟩, hy⟩ : ∃ y, (framesL X)[i]? = some y := ⟨_, List.getElem?_eq_getElem (by omega)⟩
                have him' : (i : Int) < (m : Int) := by omega
                obtain ⟨g1, rfl, hg1⟩ := row_item H5.out.2.1.1 (fun g hg => by have := (H1.out.1.lt g hg).2; omega) hk hsz (v := .string (tx yt)) (i := i) (by rw [List.getElem?_map, hy]; rfl)
                obtain ⟨g2, rfl, hg2⟩ := row_item H5.out.2.1.2 (fun g hg => by have := (H1.out.2.1.lt g hg).2; omega) hk hsz (v := .int .i64 (ya : Nat)) (i := i) (by rw [List.getElem?_map, hy]; rfl)
                by_cases hxy : xa = ya
                · subst hxy
                  by_cases hty : xt = yt
                  · subst hty
                    have hnext : (pre ++ [(xa, xt)]) <+: framesL X := by
                      obtain ⟨t, ht⟩ := hpre
                      have h9 : (framesL X).drop i = (xa, xt) :: (framesL X).drop (i + 1) := by
                        obtain ⟨hlt9, he9⟩ := List.getElem?_eq_some_iff.1 hy
                        rw [List.drop_eq_getElem_cons hlt9, he9]
                      refine ⟨(framesL X).drop (i + 1), ?_⟩
                      rw [List.append_assoc, List.singleton_append, ← h9, ← ht, ← hi]
                      simp
                    obtain ⟨F, hF⟩ : ∃ F, tx (frameL 1 xt) = F := ⟨_, rfl⟩
                    have hFs : F.size = c + 28 := by rw [← hF, tx_size, frameL_length, hc]; omega
                    have hcb : c ≤ 5280 := by
                      have hm9 := framesF_mem _ _ _ _ _ (List.mem_of_getElem? hy)
                      dsimp only at hm9
                      omega
                    have HN : Hid (∀ W, Calls Tryz.prog 28 #[.int .i64 (c : Nat)] W fun e w' => e = .returned (.int .i64 ((c : Int) + 28)) ∧ W = w') := Lib.hid fun W => Need_any c (by omega) W
                    have HF : Hid (∀ W, Calls Tryz.prog 25 #[.int .i64 1, .string (tx xt)] W fun e w' => e = .returned (.string F) ∧ Below W.heap.size W w') := Lib.hid fun W => by
                      have h := refFrame_any 1 xt (by omega) (by omega) W
                      rw [hF] at h
                      exact h
                    have HX := Lib.hid (And.intro hnext (And.intro hbi (And.intro hk hi)))
                    have hTT : ((tx xt).toList == (tx xt).toList) = true := by simp
                    have hcI : (c : Int) ≤ 5280 := by omega
                    obtain ⟨T, hTe⟩ : ∃ T, tx xt = T := ⟨_, rfl⟩
                    rw [hTe] at hT hg1 HF hTT
                    have hb2' : ∀ w2, Below W'.heap.size W' w2 → w2.cell? ⟨c0 + 2, 0, none⟩ = some (.int .i64 (i : Nat)) ∧ w2.frozen? ⟨c0 + 2, 0, none⟩ = false := fun w2 hb => ⟨Boxed.cell (t := 3) ((hb.block _ hbi.lt).trans hbi), Boxed.frozen (t := 3) (v := .int .i64 (i : Nat)) ((hb.block _ hbi.lt).trans hbi)⟩
                    have HB2 := Lib.hid hb2'
                    clear hnext hpre hml hfl hXl him hy hF hcb hc hi hb2'
                    dsimp only
                    rw [hTe]
                    gi_wp2_with (first
                      | (refine ⟨trivial, ?_⟩; gi_at_call 28; refine (CallsIn.inRound l' (callsIn_wide.2 (HN.out _))).mono ?_; rintro e w2 ⟨rfl, rfl⟩)
                      | (refine ⟨trivial, ?_⟩; gi_at_call 25; refine (CallsIn.inRound l' (callsIn_wide.2 (HF.out _))).mono ?_; rintro e w2 ⟨rfl, hb2⟩; obtain ⟨q2, f2⟩ := HB2.out _ hb2; have hb2 := Lib.hid hb2))
                    obtain ⟨hnext, hbi, hk, hi⟩ := HX.out
                    have hbi2 : Boxed w2 (c0 + 2) 3 (.int .i64 (i : Nat)) := (hb2.out.block _ hbi.lt).trans hbi
                    have hset := hbi2.set (.int .i64 ((i : Int) + 1))
                    have hfar : ∀ k, k < W'.heap.size → k ≠ c0 + 2 → (w2.setCell ⟨c0 + 2, 0, none⟩ (.int .i64 ((i : Int) + 1))).heap[k]? = W'.heap[k]? := fun k h1 h2 => (Below.heap_setCell w2 ⟨c0 + 2, 0, none⟩ _ k h2).trans (hb2.out.block k h1)
                    refine ⟨((below_others hb2.out).trans (KeepsOthers.setCell _ _ _)).from _, ⟨hfar (c0 + 3) (by omega) (by omega), hfar _ (by omega) (by omega)⟩, hnext, ?_, (hk.trans (Keeps.of_below (L := fun k => k < c0 + 4 ∧ k ≠ c0 + 2) hb2.out (fun _ h _ => h))).setCell (p := ⟨c0 + 2, 0, none⟩) (.inl (fun h => h.2 rfl)) _⟩
                    rw [List.length_append, List.length_singleton, hi]
                    exact hset
                  · have hne := str_ne (fun h => hty (by rw [← tx_list xt, ← tx_list yt, h]) : tx xt ≠ tx yt)
                    have HN : Hid (¬ (pre ++ [(xa, xt)]) <+: framesL X) := Lib.hid (fun h => by
                      obtain ⟨t, ht⟩ := h
                      rw [← ht, List.append_assoc, List.getElem?_append_right (by omega), hi] at hy
                      simp at hy
                      exact hty hy)
                    obtain ⟨T, hTe⟩ : ∃ T, tx xt = T := ⟨_, rfl⟩
                    obtain ⟨U, hUe⟩ : ∃ U, tx yt = U := ⟨_, rfl⟩
                    rw [hTe] at hT hne
                    rw [hUe] at hg1 hne
                    clear hpre hml hfl hXl hi him hy
                    dsimp only
                    rw [hTe]
                    gi_wp2
                    refine ⟨trivial, ?_⟩
                    gi_wp2
                    refine ⟨trivial, ?_⟩
                    gi_wp2
                    exact ⟨(KeepsOthers.setCell _ _ _).from _, HN.out⟩
                · have hne : ((xa : Int) != (ya : Int)) = true := by rw [bne_iff_ne]; omega
                  have hne3 : ((xa : Int) == (ya : Int)) = false := by rw [beq_eq_false_iff_ne]; omega
                  have HN : Hid (¬ (pre ++ [(xa, xt)]) <+: framesL X) := Lib.hid (fun h => by
                    obtain ⟨t, ht⟩ := h
                    rw [← ht, List.append_assoc, List.getElem?_append_right (by omega), hi] at hy
                    simp at hy
                    exact hxy hy.1)
                  clear hpre hml hfl hXl hi him hy
                  dsimp only
                  gi_wp2
                  refine ⟨trivial, ?_⟩
                  gi_wp2
                  refine ⟨trivial, ?_⟩
                  gi_wp2
                  exact ⟨(KeepsOthers.setCell _ _ _).from _, HN.out⟩
            case refine'_4 =>
              rintro D ys W' hD rfl ⟨_, hbi, hk⟩ hK
              have hb10 : Boxed W' c0 31 (.slice va m vc) := (hk.block c0 (by omega) ⟨by omega, by omega⟩).trans H5.out.1.1
              rw [HM.out] at hbi
              have hall : Hid ((D :: Ds).length = j + 1 ∧ (D :: Ds).Nodup ∧ (∀ D' ∈ D :: Ds, rb < D' ∧ W'.heap[D']? = some (.deferred (some []))) ∧ Boxed W' rb 4 (.bool false) ∧ Below rb w W' ∧ Row W' b3 9 [.string s, .string A, .string (A ++ s)] ∧ rb < b3) := Lib.hid (by
                obtain ⟨h1, h2, h3, h4, h5, h6, h7⟩ := HW.out
                have hblk : ∀ k, k < W.heap.size → W'.heap[k]? = W.heap[k]? := fun k hk9 => (hk.block k (by omega) ⟨by omega, by omega⟩).trans (H5.out.2.2.1.block k (by omega))
                have hDs : ∀ D' ∈ Ds, D' < W.heap.size := fun D' hD' => (Array.getElem?_eq_some_iff.1 (h3 D' hD').2).1
                refine ⟨by rw [List.length_cons, h1], List.nodup_cons.2 ⟨fun hm9 => by have := hDs D hm9; omega, h2⟩, fun D' hD' => ?_, (hblk rb h4.lt).trans h4, ?_, (hblk b3 h6.lt).trans h6, h7⟩
                · rcases List.mem_cons.1 hD' with rfl | hD'
                  · exact ⟨by omega, hK⟩
                  · exact ⟨(h3 D' hD').1, (hblk D' (hDs D' hD')).trans (h3 D' hD').2⟩
                · exact (h5.trans (H5.out.2.2.1.mono (Nat.le_of_lt hrbs0))).trans (hk.below (by omega) (fun k h => ⟨by omega, by omega⟩)))
              have c10 := hb10.cell
              have ci := hbi.cell
              have hjI : (j : Int) < 3 := by omega
              clear hb10 hbi hk hK hD
              go_wp2_with fail
              refine ⟨⟨_, _, _, _, _, _, _, _, _, _, _, _, _, _, _, _, _, _, _, _, _, _, _, _, _, _, _, _, _, _, _, _, _, _, _, _, _, _, _, _, _, _, _, _, _, _, _, _, _, _, _, _, _, _, _, _, _, _, _, _, _, _, _, _, _, _, _, _, _, _, _, _, _, _, _, _, _, _, _, _, _, _, _, _, _, _, _, _, _, _, _, _, _, _, j + 1, D :: Ds, by rw [show ((j + 1 : Nat) : Int) = (j : Int) + 1 by omega]; rfl, by omega, hall⟩, ?_⟩
              show 3 - (intOf (.int .i64 ((j : Int) + 1))).toNat < 3 - (intOf (.int .i64 (j : Int))).toNat
              simp [intOf]
              omega
          · have hj3 : j = 3 := by omega
            subst hj3
            obtain ⟨h1, h2, h3, h4, h5, h6, h7⟩ := HW.out
            obtain ⟨D3, D2, D1, rfl⟩ : ∃ a b c, Ds = [a, b, c] := by
              match Ds, h1 with
              | [a, b, c], _ => exact ⟨a, b, c, rfl⟩
            have g3 := h3 D3 (by simp)
            have g2 := h3 D2 (by simp)
            have g1 := h3 D1 (by simp)
            have n32 : D3 ≠ D2 := fun e => by subst e; simp at h2
            have n31 : D3 ≠ D1 := fun e => by subst e; simp at h2
            have n21 : D2 ≠ D1 := fun e => by subst e; simp at h2
            have hcR := h4.cell
            have hfR := h4.frozen
            have HE := Lib.hid (And.intro g3 (And.intro g2 (And.intro g1 (And.intro n32 (And.intro n31 (And.intro n21 (And.intro h4 h5)))))))
            simp only [List.map_cons, List.map_nil]
            clear h1 h2 h3 h4 h5 h6 h7 g1 g2 g3 n32 n31 n21 HW hlt hj
            go_wp2_with fail
            obtain ⟨g3, g2, g1, n32, n31, n21, h4, h5⟩ := HE.out
            have r4 := h4.set (.bool true)
            obtain ⟨V, hV⟩ : ∃ V, W.setCell ⟨rb, 0, none⟩ (.bool true) = V := ⟨_, rfl⟩
            have hfar : ∀ k, k ≠ rb → V.heap[k]? = W.heap[k]? := fun k h => by rw [← hV]; exact Below.heap_setCell W ⟨rb, 0, none⟩ _ k h
            have hB : Below rb w V := by rw [← hV]; exact h5.setCell (p := ⟨rb, 0, none⟩) (Nat.le_refl _) _
            rw [hV] at r4 ⊢
            have k3 := (hfar D3 (by omega)).trans g3.2
            have k2 : (V.putObj D3 (.deferred none)).heap[D2]? = some (.deferred (some [])) := (World.putObj_heap_other (Ne.symm n32)).trans ((hfar D2 (by omega)).trans g2.2)
            have k1 : ((V.putObj D3 (.deferred none)).putObj D2 (.deferred none)).heap[D1]? = some (.deferred (some [])) := (World.putObj_heap_other (Ne.symm n21)).trans ((World.putObj_heap_other (Ne.symm n31)).trans ((hfar D1 (by omega)).trans g1.2))
            have hR : (((V.putObj D3 (.deferred none)).putObj D2 (.deferred none)).putObj D1 (.deferred none)).cell? ⟨rb, 0, none⟩ = some (.bool true) :=
              Boxed.cell (t := 4) ((World.putObj_heap_other (by omega)).trans ((World.putObj_heap_other (by omega)).trans ((World.putObj_heap_other (by omega)).trans r4)))
            refine ⟨by simp, .inl ⟨_, _, rfl, run_takeDeferred k3, ⟨by simp, .inl ⟨_, _, rfl, run_takeDeferred k2, ⟨by simp, .inl ⟨_, _, rfl, run_takeDeferred k1, ?_⟩⟩⟩⟩⟩⟩
            refine ⟨.bool true, by simp [results, Tryz.f4, go_sem, hR], rfl, ?_⟩
            have hBw : Below w.heap.size w V := by rw [hrb]; exact hB
            exact ((hBw.trans (belowK_b (w := w) (Nat.le_refl _) _ D3 _ _ (by omega) k3 rfl rfl)).trans (belowK_b (w := w) (Nat.le_refl _) _ D2 _ _ (by omega) k2 rfl rfl)).trans (belowK_b (w := w) (Nat.le_refl _) _ D1 _ _ (by omega) k1 rfl rfl)
  · have hor : (decide ((2000 : Int) < (s.size : Int)) || decide ((10 : Int) < (n : Int))) = true := by simp; omega
    have hcR := HA.out.1.cell
    have hfR := HA.out.1.frozen
    go_wp2_with fail
    all_goals
      have hR := (HA.out.1.set (.bool true)).cell
      exact ⟨_, (by simp [results, Tryz.f4, go_sem, hR]), rfl, by first | exact HA.out.2.1.setCell (p := ⟨rb, 0, none⟩) (Nat.le_refl _) _ | (rw [hrb]; exact HA.out.2.1.setCell (p := ⟨rb, 0, none⟩) (Nat.le_refl _) _)⟩
end Go.Proofs.YtiaaeniopjpfpaaGreatDoor

namespace Go.Proofs.YtiaaeniopjpfpaaGreatDoor
open Go.RowKit
set_option linter.unusedVariables false

theorem drew_drew (w : World) (m n : Nat) : (w.drewN m).drewN n = w.drewN (m + n) := by simp [World.drewN, Nat.add_assoc]

theorem ret_boolE {a b : Bool} (h : a = b) : Ending.returned (.bool a) = .returned (.bool b) := by rw [h]

set_option maxHeartbeats 400000 in
theorem Equal_any (v1 v2 : Value) (l1 l2 : List ByteArray) (w : World) (h1 : Strs w v1 l1) (h2 : Strs w v2 l2) (hl1 : l1.length ≤ 100000) (hl2 : l2.length ≤ 100000) :
    Calls Tryz.prog 23 #[v1, v2] w fun e w' => e = .returned (.bool (decide (l1 = l2))) ∧ ∃ n, w' = w.drewN n := by
  obtain ⟨p1, c1, b1, o1, rfl, hp1, hc1⟩ := h1
  obtain ⟨p2, c2, b2, o2, rfl, hp2, hc2⟩ := h2
  by_cases hlen : l1.length = l2.length
  · rw [hlen] at hc1 hp1 ⊢
    obtain ⟨n, hn⟩ : ∃ n, l2.length = n := ⟨_, rfl⟩
    have HN := Lib.hid hn
    rw [hn] at hc1 hc2 hp1 hp2 hl2 ⊢
    rw [hn] at hlen
    have HL := Lib.hid hlen
    clear hlen hl1 hn
    have HC := Lib.hid (And.intro hc1 hc2)
    have HP := Lib.hid (And.intro hp1 hp2)
    clear hc1 hc2 hp1 hp2
    go_enter Tryz.func23, Tryz.ntmps23
    go_wp2
    go_loopw [13] (fun i wr => ∃ j m : Nat, j ≤ n ∧ i = .int .i64 j ∧ Hid (∀ k, k < j → l1.getD k ByteArray.empty = l2.getD k ByteArray.empty) ∧ Hid (wr = w.drewN m)) (fun i _ => n - (intOf i).toNat)
    case atStart => exact ⟨0, 0, Nat.zero_le _, rfl, fun k hk => by omega, rfl⟩
    case round =>
      obtain ⟨j, m, hj, rfl, HE, HW⟩ := hrel
      rw [HW.out]
      clear HW
      by_cases hlt : j < n
      · obtain ⟨rfl, hb1⟩ := HP.out.1 (by omega)
        obtain ⟨rfl, hb2⟩ := HP.out.2 (by omega)
        have hx := HC.out.1 j hlt
        have hy := HC.out.2 j hlt
        obtain ⟨x, HX⟩ : ∃ x, Hid (l1.getD j ByteArray.empty = x) := ⟨_, Lib.hid rfl⟩
        obtain ⟨y, HY⟩ : ∃ y, Hid (l2.getD j ByteArray.empty = y) := ⟨_, Lib.hid rfl⟩
        rw [HX.out] at hx
        rw [HY.out] at hy
        by_cases hxy : x = y
        · subst hxy
          have HE2 : Hid (∀ k, k < j + 1 → l1.getD k ByteArray.empty = l2.getD k ByteArray.empty) := Lib.hid fun k hk => by
            rcases (by omega : k < j ∨ k = j) with h | h
            · exact HE.out k h
            · subst h; rw [HX.out, HY.out]
          go_wp2_with fail
          go_quiet (fail)
          go_wp2_with fail
          go_roundw
          case rel => exact ⟨j + 1, _, by omega, by go_num, HE2, Lib.hid rfl⟩
          case measure => simp [intOf]; omega
        · have hne := str_ne hxy
          have hd : Hid (decide (l1 = l2) = false) := Lib.hid (decide_eq_false fun h => hxy (by rw [← HX.out, ← HY.out, h]))
          go_wp2_with fail
          go_quiet (fail)
          go_wp2_with fail
          go_ret
          exact ⟨ret_boolE hd.out.symm, _, drew_drew _ _ _⟩
      · have hd : Hid (decide (l1 = l2) = true) := Lib.hid (decide_eq_true (List.ext_getElem (by rw [HL.out, HN.out]) fun k hk1 hk2 => by
          have hk := HE.out k (by have := HL.out; omega)
          simpa [List.getD, List.getElem?_eq_getElem hk1, List.getElem?_eq_getElem hk2] using hk))
        go_wp2_with fail
        go_ret
        exact ⟨ret_boolE hd.out.symm, _, rfl⟩
  · have hd : decide (l1 = l2) = false := decide_eq_false (fun h => hlen (by rw [h]))
    rw [hd]
    have hne : ((l1.length : Int) == (l2.length : Int)) = false := by simp; omega
    go_enter Tryz.func23, Tryz.ntmps23
    go_wp2
    go_ret
    exact ⟨rfl, 0, rfl⟩

end Go.Proofs.YtiaaeniopjpfpaaGreatDoor

namespace Go.Proofs.YtiaaeniopjpfpaaGreatDoor
open Go Go.RowKit Go.Maps
set_option linter.unusedVariables false
set_option linter.unusedSimpArgs false

theorem add_few (g : LG) (D : DS) (t : List UInt8) : (g.add D t).1.1.count ≤ g.count + 1 ∧ (g.renewT D t).1.1.count ≤ g.count + 1 := by
  refine ⟨?_, ?_⟩
  · unfold LG.add
    repeat' split
    all_goals first | exact Nat.le_succ _ | exact Nat.le_refl _
  · unfold LG.renewT LG.renew
    repeat' split
    all_goals first | exact Nat.le_succ _ | exact Nat.le_refl _ | (show 1 ≤ g.count + 1; omega)
def AL.cells (a : AL) : List Value := [.bool a.anew, .int .u16 (a.n : Nat), .int .u8 a.b.toNat]
/-- A slice of acts. -/
def ALs (W : World) (v : Value) (l : List AL) : Prop :=
  ∃ (a0 : Option Addr) (cap b off : Nat), v = .slice a0 l.length cap ∧ (0 < l.length → a0 = some ⟨b, off, none⟩ ∧ b < W.heap.size) ∧ ∀ j c, l[j]? = some c → c.n < 65536 ∧ W.rangeAt b (off + j * 3) c.cells
/-- What a round begins with. -/
structure PlR (w wr : World) (lp p kp q j : Nat) (g : LG) (D : DS) (r : RL) (E : DS) : Prop where
  two : TwoLogs (fun k => k < w.heap.size) wr lp p kp q g D r E
  same : E = D.reff
  both : Both g D r
  num : r.num ≤ j
  few : r.texts.length ≤ j
  steps : D.steps ≤ 5000 * j
  hangs : D.hangs.length ≤ 5000 * j
  bel : Below w.heap.size w wr

set_option maxRecDepth 100000 in
set_option maxHeartbeats 8000000 in
theorem LogPlays_walk (s : Int) (v : Value) (l : List AL) (fu : Int) (ag : Bool) (w : World) (hs0 : (Lit.int .u8 s).wf = true) (hf0 : (Lit.int .u8 fu).wf = true) (hv : ALs w v l) (hl : l.length ≤ 9223372036854775807) (hG : G w) :
    Calls Tryz.prog 3 #[.int .u8 s, v, .int .u8 fu, .bool ag] w fun e w' => e = .returned (.bool true) ∧ Below w.heap.size w w' := by
  have hs1 : 0 ≤ s ∧ s ≤ 255 := by
    have h : IntKind.u8.min ≤ s ∧ s ≤ IntKind.u8.max := by simpa [Lit.wf] using hs0
    exact h
  have hf1 : 0 ≤ fu ∧ fu ≤ 255 := by
    have h : IntKind.u8.min ≤ fu ∧ fu ≤ IntKind.u8.max := by simpa [Lit.wf] using hf0
    exact h
  obtain ⟨sn, rfl⟩ := Int.eq_ofNat_of_zero_le hs1.1
  obtain ⟨fn, rfl⟩ := Int.eq_ofNat_of_zero_le hf1.1
  have HG := Lib.hid hG
  have HST : Hid (0 < w.heap.size) := Lib.hid (Starts.lt hG)
  obtain ⟨a0, cap, b, off, rfl, h1, h2⟩ := hv
  obtain ⟨n, hn⟩ : ∃ n, l.length = n := ⟨_, rfl⟩
  rw [hn] at h1 hl ⊢
  have HC := Lib.hid (And.intro h1 (And.intro h2 hn))
  have hsnI : (sn : Int) ≤ 255 := hs1.2
  have hfnI : (fn : Int) ≤ 255 := hf1.2
  clear h1 h2 hn hs0 hf0 hs1 hf1 hG
  obtain ⟨m, hm⟩ : ∃ m, 16 + sn % 128 = m := ⟨_, rfl⟩
  have hmI : (16 : Int) + (sn : Int) % 128 = (m : Int) := by omega
  have hm16 : 16 ≤ m := by omega
  have hm143 : m ≤ 143 := by omega
  have HM := Lib.hid (And.intro hm16 hm143)
  clear hm hm16 hm143
  go_enter Tryz.func3, Tryz.ntmps3
  go_wp2_with fail
  refine (awake12_any _ HG.out).mono ?_
  rintro e wa ⟨rfl, hb0⟩
  have HA := Lib.hid hb0
  clear hb0
  by_cases hn16 : n ≤ 16
  rotate_left
  · have hnI : (16 : Int) < (n : Int) := by omega
    go_wp2_with fail
    go_ret
    exact ⟨rfl, HA.out⟩
  have hnI : (n : Int) ≤ 16 := by omega
  go_wp2_with fail
  refine (New_any m HM.out.1 (by have := HM.out.2; omega) _).mono ?_
  rintro e w2 ⟨rfl, hD, hB2⟩
  have hd2 : DiskIs (fun k => k < wa.heap.size) w2 (wa.heap.size + 2) (newDS m) := ⟨_, _, _, _, hD _ (fun k h => h)⟩
  clear hD
  obtain ⟨p, hp⟩ : ∃ p, wa.heap.size + 2 = p := ⟨_, rfl⟩
  rw [hp] at hd2 ⊢
  have H2 := Lib.hid (And.intro hd2 (And.intro hB2 (HA.out.trans (hB2.mono HA.out.size))))
  clear hp hd2 hB2
  go_wp2_with fail
  refine (RNew_any m HM.out.1 (by have := HM.out.2; omega) _).mono ?_
  rintro e w3 ⟨rfl, hR, hB3⟩
  have hr3 : RefIs (fun k => k < w2.heap.size) w3 (w2.heap.size + 1) (newDS m) := ⟨_, _, hR _ (fun k h => h)⟩
  clear hR
  obtain ⟨q, hq⟩ : ∃ q, w2.heap.size + 1 = q := ⟨_, rfl⟩
  rw [hq] at hr3 ⊢
  have H3 := Lib.hid (And.intro hr3 (And.intro hB3 (H2.out.2.2.trans (hB3.mono H2.out.2.2.size))))
  clear hq hr3 hB3
  go_wp2_with fail
  have hd3 : DiskIs (fun k => k < wa.heap.size) w3 p (newDS m) := H2.out.1.below H3.out.2.1
  have hbo := both_open (both_new m HM.out.1 (by have := HM.out.2; omega)) rfl (by decide) (by decide)
  have HOP := Lib.hid (Open_any (HG.out.below H3.out.2.2) hd3 rfl hbo.2.2.2.2)
  rw [hbo.2.2.1] at HOP
  clear hd3 hbo
  refine HOP.out.mono ?_
  rintro e w4 ⟨⟨lp, v4, rfl, hlp, hr4, ho4⟩, hB4⟩
  obtain ⟨a4, c4, rfl⟩ := own_slice ho4
  have H4 := Lib.hid (And.intro hlp (And.intro hr4 (And.intro hB4 (H3.out.2.2.trans (hB4.mono H3.out.2.2.size)))))
  clear hlp hr4 ho4 hB4
  go_wp2_with fail
  have H5 : Hid (PlR w (w4.alloc (.cells #[.pointer (some ⟨q, 0, none⟩), .int .u64 0, .int .u64 0, .slice none 0 0, .string ⟨#[]⟩, .int .i64 0] 37)) lp p w4.heap.size q 0 LG.zero (newDS m) ⟨0, 0, [], [], 0⟩ (newDS m)) := Lib.hid (by
    obtain ⟨hlp, hr4, hB4, hBw⟩ := H4.out
    have s1 := HA.out.size
    have s2 := H2.out.2.1.size
    have s3 := H3.out.2.1.size
    have s4 := hB4.size
    have hb5 : Below w4.heap.size w4 (w4.alloc (.cells #[.pointer (some ⟨q, 0, none⟩), .int .u64 0, .int .u64 0, .slice none 0 0, .string ⟨#[]⟩, .int .i64 0] 37)) := (Below.refl _ _).alloc (Nat.le_refl _) _
    have hsz5 : (w4.alloc (.cells #[.pointer (some ⟨q, 0, none⟩), .int .u64 0, .int .u64 0, .slice none 0 0, .string ⟨#[]⟩, .int .i64 0] 37)).heap.size = w4.heap.size + 1 := by simp
    have hlt := hr4.lt
    refine ⟨⟨.slice none 0 0, ⟨fun k => k < w4.heap.size + 1 ∧ (k < wa.heap.size ∨ w2.heap.size ≤ k), fun k hk => by rw [hsz5]; exact hk.1, fun k hk => ?_, ?_, ?_⟩, hr4.below hb5 hr4.lt, Row.new w4 37 [.pointer (some ⟨q, 0, none⟩), .int .u64 0, .int .u64 0, .slice none 0 0, .string ⟨#[]⟩, .int .i64 0], World.ownsRow_nil _ _ _ _, by omega, by omega, fun k hk => by simp [Value.ownBlock] at hk⟩, rfl, both_new m HM.out.1 (by have := HM.out.2; omega), Nat.le_refl _, Nat.le_refl _, Nat.le_refl _, Nat.le_refl _, hBw.alloc hBw.size _⟩
    · rcases hk with h | h | h | h
      · exact ⟨by omega, .inl (by omega)⟩
      · subst h; exact ⟨by omega, .inr (by omega)⟩
      · subst h; exact ⟨by omega, .inr (by omega)⟩
      · simp [Value.ownBlock] at h
    · refine ((((H2.out.1.more (fun k hk => ?_)).below H3.out.2.1).below hB4).below hb5)
      rcases hk.2 with h | h
      · exact .inl h
      · exact .inr h
    · refine ((H3.out.1.more (fun k hk => ?_)).below hB4).below hb5
      rcases hk with (h | h | h | h) | ⟨h1, h2⟩
      · exact .inl (by show k < w2.heap.size; omega)
      · subst h; exact .inr hlp
      · subst h; exact .inr (by omega)
      · simp [Value.ownBlock] at h
      · exact .inl (by
          show k < w2.heap.size
          rw [hsz5] at h1
          exact Classical.byContradiction fun hn => h2 ⟨h1, .inr (by omega)⟩))
  obtain ⟨kp, hkp⟩ : ∃ kp, w4.heap.size = kp := ⟨_, rfl⟩
  rw [hkp] at H5 ⊢
  clear HOP H4 H3 H2 HM hkp hmI
  generalize (w4.alloc (.cells #[.pointer (some ⟨q, 0, none⟩), .int .u64 0, .int .u64 0, .slice none 0 0, .string ⟨#[]⟩, .int .i64 0] 37)) = w5 at H5 ⊢
  go_loopw [52] (fun i wr => ∃ j : Nat, j ≤ n ∧ i = .int .i64 j ∧ Hid (∃ g D r E, PlR w wr lp p kp q j g D r E)) (fun i _ => n - (intOf i).toNat)
  case atStart => exact ⟨0, Nat.zero_le _, rfl, Lib.hid ⟨_, _, _, _, H5.out⟩⟩
  case round =>
    obtain ⟨j, hj, rfl, HW⟩ := hrel
    by_cases hltj : j < n
    · obtain ⟨g, D, r, E, hA⟩ := HW.out
      obtain ⟨c, hc⟩ : ∃ c, l[j]? = some c := ⟨_, List.getElem?_eq_getElem (by have := HC.out.2.2; omega)⟩
      obtain ⟨rfl, hbl⟩ := HC.out.1 (by omega)
      obtain ⟨hcn, hcr⟩ := HC.out.2.1 j c hc
      have q0 := (hA.bel.cell (p := ⟨b, off + j * 3, none⟩) hbl).trans (hcr 0 _ rfl)
      have q1 := (hA.bel.cell (p := ⟨b, off + j * 3 + 1, none⟩) hbl).trans (hcr 1 _ rfl)
      have q2 := (hA.bel.cell (p := ⟨b, off + j * 3 + 2, none⟩) hbl).trans (hcr 2 _ rfl)
      have hltI : (j : Int) < (n : Int) := by omega
      obtain ⟨can, cnn, cb⟩ := c
      dsimp only at hcn q0 q1 q2
      have hcnI : (cnn : Int) < 65536 := by omega
      have H6 : Hid (Row (wr.alloc (.cells #[.bool can, .int .u16 (cnn : Nat), .int .u8 cb.toNat] 40)) wr.heap.size 40 [.bool can, .int .u16 (cnn : Nat), .int .u8 cb.toNat] ∧ TwoLogs (fun k => k < w.heap.size ∨ k = wr.heap.size) (wr.alloc (.cells #[.bool can, .int .u16 (cnn : Nat), .int .u8 cb.toNat] 40)) lp p kp q g D r D.reff ∧ Below w.heap.size w (wr.alloc (.cells #[.bool can, .int .u16 (cnn : Nat), .int .u8 cb.toNat] 40))) := Lib.hid (by
        have hb1 : Below wr.heap.size wr (wr.alloc (.cells #[.bool can, .int .u16 (cnn : Nat), .int .u8 cb.toNat] 40)) := (Below.refl _ _).alloc (Nat.le_refl _) _
        have hE := hA.same
        subst hE
        refine ⟨Row.new wr 40 [.bool can, .int .u16 (cnn : Nat), .int .u8 cb.toNat], hA.two.grow hb1 (fun k hk => ?_), hA.bel.trans (hb1.mono hA.bel.size)⟩
        rcases hk with hk | rfl
        · exact .inl hk
        · exact .inr ⟨Nat.le_refl _, by rw [World.size_alloc]; omega⟩)
      have HR : Hid (Both g D r ∧ r.num ≤ j ∧ r.texts.length ≤ j ∧ D.steps ≤ 5000 * j ∧ D.hangs.length ≤ 5000 * j ∧ w.heap.size ≤ wr.heap.size) := Lib.hid ⟨hA.both, hA.num, hA.few, hA.steps, hA.hangs, hA.bel.size⟩
      have HCN := Lib.hid (And.intro hcn hj)
      obtain ⟨s, hs⟩ : ∃ s, wr.heap.size = s := ⟨_, rfl⟩
      rw [hs] at H6 HR
      have HSE := Lib.hid hs
      clear hA hc hcr HW hcn hltj hj hs
      cases ag
      · cases can
        · go_wp2_with fail
          rw [HSE.out]
          generalize (wr.alloc (.cells #[.bool false, .int .u16 (cnn : Nat), .int .u8 cb.toNat] 40)) = w6 at H6 ⊢
          obtain ⟨TL, hTL⟩ : ∃ TL, AL.text ⟨false, cnn, cb⟩ = TL := ⟨_, rfl⟩
          have hTLl : TL.length ≤ 17000 := by rw [← hTL]; unfold AL.text; rw [List.length_replicate]; have := Nat.mod_lt cnn (show 0 < 17000 by omega); show cnn % 17000 ≤ 17000; omega
          have HTX : Hid (∀ W, Calls Tryz.prog 14 #[.agg #[.bool false, .int .u16 (cnn : Nat), .int .u8 cb.toNat]] W fun e w' => e = .returned (.string (tx TL)) ∧ Below W.heap.size W w') := Lib.hid fun W => by
            have h := actText_any ⟨false, cnn, cb⟩ HCN.out.1 W
            rw [hTL] at h
            exact h
          obtain ⟨A, hA⟩ : ∃ x, g.add D TL = x := ⟨_, rfl⟩
          obtain ⟨B, hB⟩ : ∃ x, r.add D.reff TL = x := ⟨_, rfl⟩
          have hDok : D.ok := by
            obtain ⟨tv, ⟨S, _, _, hd, _⟩, _⟩ := H6.out.2.1
            obtain ⟨_, _, _, _, hd⟩ := hd
            exact hd.good
          have hbth := both_add HR.out.1 hDok TL (by omega)
          rw [hA, hB] at hbth
          have HBT := Lib.hid hbth
          have HAE := Lib.hid hA
          have hj16 : j ≤ 16 := by have := HCN.out.2; omega
          have HC1 : Hid (∀ W, TwoLogs (fun k => k < w.heap.size ∨ k = s) W lp p kp q g D r D.reff → Below w.heap.size w W → Calls Tryz.prog 16 #[.pointer (some ⟨lp, 0, none⟩), .string (tx TL)] W fun e w' => e = .returned (.int .i64 A.2) ∧ TwoLogs (fun k => k < w.heap.size ∨ k = s) w' lp p kp q A.1.1 A.1.2 r D.reff ∧ Keeps (fun k => k < w.heap.size ∨ k = s) W w') := Lib.hid fun W h hb => by
            have h1 := TwoLogs.add1 h HR.out.1 (HG.out.below hb) (by have := HR.out; omega) (by have := HR.out; omega) (by have := HR.out; omega) TL (by omega)
            rw [hA] at h1
            exact h1
          have HC2 : Hid (∀ W, TwoLogs (fun k => k < w.heap.size ∨ k = s) W lp p kp q A.1.1 A.1.2 r D.reff → Calls Tryz.prog 17 #[.pointer (some ⟨kp, 0, none⟩), .string (tx TL)] W fun e w' => e = .returned (.int .i64 B.2) ∧ TwoLogs (fun k => k < w.heap.size ∨ k = s) w' lp p kp q A.1.1 A.1.2 B.1.1 B.1.2 ∧ Keeps (fun k => k < w.heap.size ∨ k = s) W w') := Lib.hid fun W h => by
            have hR := HR.out
            have e1 : D.reff.steps = D.steps := rfl
            have e2 : D.reff.hangs = D.hangs := rfl
            have h1 := TwoLogs.add2 h (by omega) (HR.out.1.room) (HR.out.1.hle) (by rw [e1]; omega) (by rw [e2]; omega) TL (by omega)
            rw [hB] at h1
            exact h1
          clear hTL hTLl hA hB hDok hbth hj16
          have HS0 : Hid (Row w6.drew s 40 [.bool false, .int .u16 (cnn : Nat), .int .u8 cb.toNat]) := Lib.hid H6.out.1.drew
          have H7 : Hid (TwoLogs (fun k => k < w.heap.size ∨ k = s) w6.drew lp p kp q g D r D.reff ∧ Below w.heap.size w w6.drew) := Lib.hid ⟨H6.out.2.1.below (below_drewK (Below.refl _ _) 1), below_drewK H6.out.2.2 1⟩
          clear H6
          refine wp_region_noPanic ?_
          refine wp_region_held_drew (S := fun W => Row W s 40 [.bool false, .int .u16 (cnn : Nat), .int .u8 cb.toNat]) (by kernel_rfl) HS0.out (fun hHeld => ?_)
          refine wpAnyH_take (i := 0) (oi := { dst := some 84, op := Op.move (Operand.tmp 13), type := 30, pos := "law.go:100", after := #[], guard := none }) (v := ?vvs_0) rfl (by kernel_rfl) (by kernel_rfl) (by kernel_rfl) (fun _ _ _ h => h) (Or.inl ⟨by rfl, ?yys_0⟩) hHeld ?_
          case vvs_0 => exact .pointer (some ⟨lp, 0, none⟩)
          case yys_0 =>
            intro W hS
            go_simp
          try simp only [Act.put, List.setIfInBounds_toArray, List.set_cons_zero, List.set_cons_succ]
          refine' wpAnyH_take (i := 1) (oi := { dst := some 85, op := Op.load 40 (Operand.tmp 18), type := 40, pos := "law.go:100", after := #[], guard := none }) (v := .agg #[.bool false, .int .u16 (cnn : Nat), .int .u8 cb.toNat]) rfl (by kernel_rfl) (by kernel_rfl) (by kernel_rfl) (fun _ _ _ h => h) (yieldsIf_load_mid (by rfl) _ _ rfl s 0 rfl [.bool false, .int .u16 (cnn : Nat), .int .u8 cb.toNat] _ (fun W h => (fun k v hk => by rw [Nat.zero_add, h.cell]; exact hk)) Tryz.underlying40 rfl (by kernel_rfl)) hHeld ?_
          try simp only [Act.put, List.setIfInBounds_toArray, List.set_cons_zero, List.set_cons_succ]
          refine wpAnyH_take (i := 4) (oi := { dst := some 88, op := Op.move (Operand.tmp 16), type := 34, pos := "law.go:100", after := #[], guard := none }) (v := ?vvs_4) rfl (by kernel_rfl) (by kernel_rfl) (by kernel_rfl) (fun _ _ _ h => h) (Or.inl ⟨by rfl, ?yys_4⟩) hHeld ?_
          case vvs_4 => exact .pointer (some ⟨kp, 0, none⟩)
          case yys_4 =>
            intro W hS
            go_simp
          try simp only [Act.put, List.setIfInBounds_toArray, List.set_cons_zero, List.set_cons_succ]
          refine' wpAnyH_take (i := 5) (oi := { dst := some 89, op := Op.load 40 (Operand.tmp 18), type := 40, pos := "law.go:100", after := #[], guard := none }) (v := .agg #[.bool false, .int .u16 (cnn : Nat), .int .u8 cb.toNat]) rfl (by kernel_rfl) (by kernel_rfl) (by kernel_rfl) (fun _ _ _ h => h) (yieldsIf_load_mid (by rfl) _ _ rfl s 0 rfl [.bool false, .int .u16 (cnn : Nat), .int .u8 cb.toNat] _ (fun W h => (fun k v hk => by rw [Nat.zero_add, h.cell]; exact hk)) Tryz.underlying40 rfl (by kernel_rfl)) hHeld ?_
          try simp only [Act.put, List.setIfInBounds_toArray, List.set_cons_zero, List.set_cons_succ]
          refine wpAnyH_ready (rs := [2]) (by kernel_rfl) (by simp) (AllReadyH.cons (o := { dst := some 86, op := Op.call { callee := Callee.value (Operand.func 14), args := #[Operand.tmp 85], argTypes := #[40] }, type := 9, pos := "law.go:100", after := #[{ on := 1, ground := Ground.data }], guard := none }) rfl (fun K hK => ?_) AllReadyH.nil)
          go_simp
          go_at_call 14
          refine (HTX.out _).mono ?_
          rintro e w7 ⟨rfl, hb7⟩
          have H8 : Hid (Row w7 s 40 [.bool false, .int .u16 (cnn : Nat), .int .u8 cb.toNat] ∧ TwoLogs (fun k => k < w.heap.size ∨ k = s) w7 lp p kp q g D r D.reff ∧ Below w.heap.size w w7) := Lib.hid ⟨HS0.out.below hb7 HS0.out.lt, H7.out.1.below hb7, H7.out.2.trans (hb7.mono H7.out.2.size)⟩
          refine hK.out _ _ H8.out.1 (fun hHeld => ?_)
          clear hK K hb7
          try simp only [Act.put, List.setIfInBounds_toArray, List.set_cons_zero, List.set_cons_succ]
          refine wpAnyH_ready (rs := [3]) (by kernel_rfl) (by simp) (AllReadyH.cons (o := { dst := some 87, op := Op.call { callee := Callee.value (Operand.func 16), args := #[Operand.tmp 84, Operand.tmp 86], argTypes := #[30, 9] }, type := 25, pos := "law.go:100", after := #[{ on := 0, ground := Ground.data }, { on := 2, ground := Ground.data }, { on := 2, ground := Ground.chain }], guard := none }) rfl (fun K hK => ?_) AllReadyH.nil)
          go_simp
          go_at_call 16
          refine (HC1.out _ H8.out.2.1 H8.out.2.2).mono ?_
          rintro e w8 ⟨rfl, ht8, hk8⟩
          have H9 : Hid (Row w8 s 40 [.bool false, .int .u16 (cnn : Nat), .int .u8 cb.toNat] ∧ TwoLogs (fun k => k < w.heap.size ∨ k = s) w8 lp p kp q A.1.1 A.1.2 r D.reff ∧ Below w.heap.size w w8) := Lib.hid ⟨(hk8.block s H8.out.1.lt (.inr rfl)).trans H8.out.1, ht8, H8.out.2.2.trans (hk8.below H8.out.2.2.size (fun k h => .inl h))⟩
          refine hK.out _ _ H9.out.1 (fun hHeld => ?_)
          clear hK K ht8 hk8
          try simp only [Act.put, List.setIfInBounds_toArray, List.set_cons_zero, List.set_cons_succ]
          refine wpAnyH_ready (rs := [6]) (by kernel_rfl) (by simp) (AllReadyH.cons (o := { dst := some 90, op := Op.call { callee := Callee.value (Operand.func 14), args := #[Operand.tmp 89], argTypes := #[40] }, type := 9, pos := "law.go:100", after := #[{ on := 5, ground := Ground.data }, { on := 3, ground := Ground.chain }], guard := none }) rfl (fun K hK => ?_) AllReadyH.nil)
          go_simp
          go_at_call 14
          refine (HTX.out _).mono ?_
          rintro e w9 ⟨rfl, hb9⟩
          have H10 : Hid (Row w9 s 40 [.bool false, .int .u16 (cnn : Nat), .int .u8 cb.toNat] ∧ TwoLogs (fun k => k < w.heap.size ∨ k = s) w9 lp p kp q A.1.1 A.1.2 r D.reff ∧ Below w.heap.size w w9) := Lib.hid ⟨H9.out.1.below hb9 H9.out.1.lt, H9.out.2.1.below hb9, H9.out.2.2.trans (hb9.mono H9.out.2.2.size)⟩
          refine hK.out _ _ H10.out.1 (fun hHeld => ?_)
          clear hK K hb9
          try simp only [Act.put, List.setIfInBounds_toArray, List.set_cons_zero, List.set_cons_succ]
          refine wpAnyH_ready (rs := [7]) (by kernel_rfl) (by simp) (AllReadyH.cons (o := { dst := some 91, op := Op.call { callee := Callee.value (Operand.func 17), args := #[Operand.tmp 88, Operand.tmp 90], argTypes := #[34, 9] }, type := 3, pos := "law.go:100", after := #[{ on := 4, ground := Ground.data }, { on := 6, ground := Ground.data }, { on := 6, ground := Ground.chain }], guard := none }) rfl (fun K hK => ?_) AllReadyH.nil)
          go_simp
          go_at_call 17
          refine (HC2.out _ H10.out.2.1).mono ?_
          rintro e w10 ⟨rfl, ht10, hk10⟩
          have H11 : Hid (Row w10 s 40 [.bool false, .int .u16 (cnn : Nat), .int .u8 cb.toNat] ∧ TwoLogs (fun k => k < w.heap.size ∨ k = s) w10 lp p kp q A.1.1 A.1.2 B.1.1 B.1.2 ∧ Below w.heap.size w w10) := Lib.hid ⟨(hk10.block s H10.out.1.lt (.inr rfl)).trans H10.out.1, ht10, H10.out.2.2.trans (hk10.below H10.out.2.2.size (fun k h => .inl h))⟩
          refine hK.out _ _ H11.out.1 (fun hHeld => ?_)
          clear hK K ht10 hk10
          try simp only [Act.put, List.setIfInBounds_toArray, List.set_cons_zero, List.set_cons_succ]
          refine wpAnyH_ready (rs := [8]) (by kernel_rfl) (by simp) (AllReadyH.cons (o := { dst := some 19, op := Op.assign (Operand.tmp 87), type := 25, pos := "law.go:100", after := #[{ on := 3, ground := Ground.data }, { on := 7, ground := Ground.chain }, { on := 0, ground := Ground.phase }, { on := 1, ground := Ground.phase }, { on := 2, ground := Ground.phase }, { on := 3, ground := Ground.phase }, { on := 4, ground := Ground.textOnly Departure.lateStores }, { on := 5, ground := Ground.textOnly Departure.lateStores }, { on := 6, ground := Ground.textOnly Departure.lateStoresUnsure }, { on := 7, ground := Ground.textOnly Departure.lateStoresUnsure }], guard := none }) rfl (fun K hK => ?_) AllReadyH.nil)
          go_simp
          refine hK.out _ _ H11.out.1 (fun hHeld => ?_)
          clear hK K
          try simp only [Act.put, List.setIfInBounds_toArray, List.set_cons_zero, List.set_cons_succ]
          refine wpAnyH_ready (rs := [9]) (by kernel_rfl) (by simp) (AllReadyH.cons (o := { dst := some 20, op := Op.assign (Operand.tmp 91), type := 3, pos := "law.go:100", after := #[{ on := 7, ground := Ground.data }, { on := 8, ground := Ground.chain }, { on := 0, ground := Ground.phase }, { on := 1, ground := Ground.phase }, { on := 2, ground := Ground.phase }, { on := 3, ground := Ground.phase }, { on := 4, ground := Ground.phase }, { on := 5, ground := Ground.phase }, { on := 6, ground := Ground.phase }, { on := 7, ground := Ground.phase }, { on := 8, ground := Ground.phase }], guard := none }) rfl (fun K hK => ?_) AllReadyH.nil)
          go_simp
          refine hK.out _ _ H11.out.1 (fun hHeld => ?_)
          clear hK K
          try simp only [Act.put, List.setIfInBounds_toArray, List.set_cons_zero, List.set_cons_succ]
          refine wpAnyH_done (by kernel_rfl) ?_ _
          refine NoPanic.normal ?_
          clear H7 H8 H9 H10 HS0 HTX HC1 HC2
          rw [HBT.out.1]
          obtain ⟨tv, hr1, hr2, hr3, ⟨S1, hd1⟩, ⟨S2, hd2⟩⟩ : ∃ tv, Row w10 lp 83 (A.1.1.cells p) ∧ Row w10 kp 37 (B.1.1.cells q tv) ∧ w10.ownsRow 0 9 1 tv B.1.1.texts.length B.1.1.vals ∧ (∃ S, DiskIs S w10 p A.1.2) ∧ (∃ S, RefIs S w10 q B.1.2) := by
            obtain ⟨tv, ⟨S, _, _, hd, hr⟩, h1, h2, h3, _⟩ := H11.out.2.1
            exact ⟨tv, h1, h2, h3, ⟨S, hd⟩, ⟨_, hr⟩⟩
          obtain ⟨av, cv, rfl⟩ := own_slice hr3
          obtain ⟨_, hb2, hbo, hcs, hch, hnm⟩ := HBT.out
          have hsB : secs B.1.2 = secs A.1.2 := by rw [hb2]; rfl
          obtain ⟨sz, hsz⟩ : ∃ x, secs A.1.2 * 128 = x := ⟨_, rfl⟩
          have hszl : sz ≤ 300000 := by
            obtain ⟨gl0, hv0, hd0⟩ := hd2
            have h1 := hd0.good.most
            rw [← hsz, ← hsB]
            unfold secs
            omega
          obtain ⟨er, her⟩ : ∃ x, B.1.1.lost = x := ⟨_, rfl⟩
          obtain ⟨nt, hnt⟩ : ∃ x, B.1.1.texts.length = x := ⟨_, rfl⟩
          obtain ⟨ub, hub⟩ : ∃ x, B.1.1.bytes.length = x := ⟨_, rfl⟩
          obtain ⟨TB, hTB⟩ : ∃ x, tx B.1.1.bytes = x := ⟨_, rfl⟩
          have hTBs : TB.size = ub := by rw [← hTB, tx_size, hub]
          have hubs : ub ≤ sz := by rw [← hub, ← hsz]; exact hbo.room
          obtain ⟨lf, hlf⟩ : ∃ x, sz - ub = x := ⟨_, rfl⟩
          have hlfI : (sz : Int) - (ub : Int) = (lf : Int) := by omega
          have hszI : (sz : Int) ≤ 300000 := by omega
          have hubI : (ub : Int) ≤ (sz : Int) := by omega
          have HE1 : Hid (∀ W', Below w10.heap.size w10 W' → Calls Tryz.prog 18 #[.pointer (some ⟨lp, 0, none⟩)] W' fun e w' => e = .returned (.int .i64 er) ∧ W' = w') := Lib.hid fun W' h => by
            have h1 := Err_any (hr1.below h hr1.lt)
            rw [hbo.err, her] at h1
            exact h1
          have HE2 : Hid (∀ W', Below w10.heap.size w10 W' → Calls Tryz.prog 19 #[.pointer (some ⟨lp, 0, none⟩)] W' fun e w' => e = .returned (.int .i64 (nt : Nat)) ∧ W' = w') := Lib.hid fun W' h => by
            have h1 := Count_any (hr1.below h hr1.lt)
            rw [hbo.count, hnt] at h1
            exact h1
          have HE3 : Hid (∀ W', Below w10.heap.size w10 W' → Calls Tryz.prog 20 #[.pointer (some ⟨lp, 0, none⟩)] W' fun e w' => e = .returned (.int .i64 (lf : Nat)) ∧ Below W'.heap.size W' w') := Lib.hid fun W' h => by
            obtain ⟨gl0, gm0, hv0, Dm0, hd0⟩ := hd1.below h
            have h1 := Left_any (hr1.below h hr1.lt) hd0 (by rw [hbo.used]; exact hbo.room)
            rw [hbo.used, hub, hsz, hlf] at h1
            exact h1
          have HE4 : Hid (∀ W', Below w10.heap.size w10 W' → Calls Tryz.prog 21 #[.pointer (some ⟨kp, 0, none⟩)] W' fun e w' => e = .returned (.int .i64 (sz : Nat)) ∧ W' = w') := Lib.hid fun W' h => by
            have h1 := refRoom_any (hr2.below h hr2.lt) (hd2.below h)
            rw [hsB, hsz] at h1
            exact h1
          have HK : Hid (∀ W', Below w10.heap.size w10 W' → W'.cell? ⟨kp, 3, none⟩ = some (.slice av nt cv) ∧ W'.cell? ⟨kp, 4, none⟩ = some (.string TB) ∧ W'.cell? ⟨kp, 5, none⟩ = some (.int .i64 er)) := Lib.hid fun W' h => by
            have hr := hr2.below h hr2.lt
            have x3 := hr.cell 3
            have x4 := hr.cell 4
            have x5 := hr.cell 5
            simp only [RL.cells, List.getElem?_cons_zero, List.getElem?_cons_succ] at x3 x4 x5
            rw [hnt] at x3
            rw [hTB] at x4
            rw [her] at x5
            exact ⟨x3, x4, x5⟩
          have HFN : Hid (B.1.2 = A.1.2.reff ∧ Both A.1.1 A.1.2 B.1.1 ∧ A.1.2.steps ≤ 5000 * (j + 1) ∧ A.1.2.hangs.length ≤ 5000 * (j + 1) ∧ B.1.1.num ≤ j + 1) := Lib.hid ⟨hb2, hbo, by have := HR.out; omega, by have := HR.out; omega, by rw [← hbo.num]; have := HR.out.1.num; have := HR.out; omega⟩
          have HFW : Hid (B.1.1.texts.length ≤ j + 1) := Lib.hid (by
            have h1 := (show A.1.1.count ≤ g.count + 1 by rw [← HAE.out]; exact (add_few g D TL).1)
            rw [hbo.count, HR.out.1.count] at h1
            have := HR.out
            omega)
          clear hr1 hr2 hr3 hd1 hd2 hb2 hbo hcs hch hnm hsB hsz hszl her hnt hub hTB hubs hlf HBT
          obtain ⟨ev, hev⟩ : ∃ x, A.2 = x := ⟨_, rfl⟩
          rw [hev]
          clear hev
          go_wp2_with fail
          refine region_quiet_lit (fun W => Below w10.heap.size w10 W) (by kernel_rfl) (by kernel_rfl) ⟨rfl, rfl, rfl, Nat.le_refl _, fun _ _ => rfl⟩ ?_
          refine wpQ_yields (.int .i64 ev) (Or.inl ⟨by rfl, fun W' hS => ?yq1⟩) ?_
          case yq1 =>
            go_simp
          try simp only [Act.put, List.setIfInBounds_toArray, List.set_cons_zero, List.set_cons_succ]
          refine wpQ_yields (.int .i64 ev) (Or.inl ⟨by rfl, fun W' hS => ?yq2⟩) ?_
          case yq2 =>
            go_simp
          try simp only [Act.put, List.setIfInBounds_toArray, List.set_cons_zero, List.set_cons_succ]
          refine wpQ_yields (.bool false) (Or.inl ⟨by rfl, fun W' hS => ?yq3⟩) ?_
          case yq3 =>
            go_simp
          try simp only [Act.put, List.setIfInBounds_toArray, List.set_cons_zero, List.set_cons_succ]
          refine wpQ_yields (.bool false) (Or.inl ⟨by rfl, fun W' hS => ?yq4⟩) ?_
          case yq4 =>
            go_simp
          try simp only [Act.put, List.setIfInBounds_toArray, List.set_cons_zero, List.set_cons_succ]
          refine wpQ_yields (.pointer (some ⟨lp, 0, none⟩)) (Or.inl ⟨by rfl, fun W' hS => ?yq5⟩) ?_
          case yq5 =>
            go_simp
          try simp only [Act.put, List.setIfInBounds_toArray, List.set_cons_zero, List.set_cons_succ]
          refine wpQ_call (.int .i64 er) 18 #[.pointer (some ⟨lp, 0, none⟩)] (by rfl) (fun W' => ?yq6) (fun W' hS => ?yr6) ?_
          case yq6 =>
            go_simp
          case yr6 =>
            refine (HE1.out W' hS).mono ?_
            rintro e wy ⟨rfl, rfl⟩
            exact ⟨rfl, hS⟩
          try simp only [Act.put, List.setIfInBounds_toArray, List.set_cons_zero, List.set_cons_succ]
          refine wpQ_yields (.pointer (some ⟨kp, 0, none⟩)) (Or.inl ⟨by rfl, fun W' hS => ?yq7⟩) ?_
          case yq7 =>
            go_simp
          try simp only [Act.put, List.setIfInBounds_toArray, List.set_cons_zero, List.set_cons_succ]
          refine wpQ_yields (.pointer (some ⟨kp, 0, none⟩)) (Or.inl ⟨by rfl, fun W' hS => ?yq8⟩) ?_
          case yq8 =>
            go_simp
          try simp only [Act.put, List.setIfInBounds_toArray, List.set_cons_zero, List.set_cons_succ]
          refine wpQ_yields (.pointer (some ⟨kp, 5, none⟩)) (Or.inl ⟨by rfl, fun W' hS => ?yq9⟩) ?_
          case yq9 =>
            go_simp
          try simp only [Act.put, List.setIfInBounds_toArray, List.set_cons_zero, List.set_cons_succ]
          refine wpQ_yields (.int .i64 er) (Or.inl ⟨by rfl, fun W' hS => ?yq10⟩) ?_
          case yq10 =>
            have q0 := HK.out W' hS
            have q1 := q0.1
            have q2 := q0.2.1
            have q3 := q0.2.2
            go_simp
          try simp only [Act.put, List.setIfInBounds_toArray, List.set_cons_zero, List.set_cons_succ]
          refine wpQ_yields (.bool false) (Or.inl ⟨by rfl, fun W' hS => ?yq11⟩) ?_
          case yq11 =>
            go_simp
          try simp only [Act.put, List.setIfInBounds_toArray, List.set_cons_zero, List.set_cons_succ]
          refine wpQ_yields (.bool false) (Or.inl ⟨by rfl, fun W' hS => ?yq12⟩) ?_
          case yq12 =>
            go_simp
          try simp only [Act.put, List.setIfInBounds_toArray, List.set_cons_zero, List.set_cons_succ]
          refine wpQ_yields (.bool false) (Or.inl ⟨by rfl, fun W' hS => ?yq13⟩) ?_
          case yq13 =>
            go_simp
          try simp only [Act.put, List.setIfInBounds_toArray, List.set_cons_zero, List.set_cons_succ]
          refine wpQ_yields (.pointer (some ⟨lp, 0, none⟩)) (Or.inl ⟨by rfl, fun W' hS => ?yq14⟩) ?_
          case yq14 =>
            go_simp
          try simp only [Act.put, List.setIfInBounds_toArray, List.set_cons_zero, List.set_cons_succ]
          refine wpQ_call (.int .i64 (nt : Nat)) 19 #[.pointer (some ⟨lp, 0, none⟩)] (by rfl) (fun W' => ?yq15) (fun W' hS => ?yr15) ?_
          case yq15 =>
            go_simp
          case yr15 =>
            refine (HE2.out W' hS).mono ?_
            rintro e wy ⟨rfl, rfl⟩
            exact ⟨rfl, hS⟩
          try simp only [Act.put, List.setIfInBounds_toArray, List.set_cons_zero, List.set_cons_succ]
          refine wpQ_yields (.pointer (some ⟨kp, 0, none⟩)) (Or.inl ⟨by rfl, fun W' hS => ?yq16⟩) ?_
          case yq16 =>
            go_simp
          try simp only [Act.put, List.setIfInBounds_toArray, List.set_cons_zero, List.set_cons_succ]
          refine wpQ_yields (.pointer (some ⟨kp, 0, none⟩)) (Or.inl ⟨by rfl, fun W' hS => ?yq17⟩) ?_
          case yq17 =>
            go_simp
          try simp only [Act.put, List.setIfInBounds_toArray, List.set_cons_zero, List.set_cons_succ]
          refine wpQ_yields (.pointer (some ⟨kp, 3, none⟩)) (Or.inl ⟨by rfl, fun W' hS => ?yq18⟩) ?_
          case yq18 =>
            go_simp
          try simp only [Act.put, List.setIfInBounds_toArray, List.set_cons_zero, List.set_cons_succ]
          refine wpQ_yields (.slice av nt cv) (Or.inl ⟨by rfl, fun W' hS => ?yq19⟩) ?_
          case yq19 =>
            have q0 := HK.out W' hS
            have q1 := q0.1
            have q2 := q0.2.1
            have q3 := q0.2.2
            go_simp
          try simp only [Act.put, List.setIfInBounds_toArray, List.set_cons_zero, List.set_cons_succ]
          refine wpQ_yields (.int .i64 (nt : Nat)) (Or.inl ⟨by rfl, fun W' hS => ?yq20⟩) ?_
          case yq20 =>
            go_simp
          try simp only [Act.put, List.setIfInBounds_toArray, List.set_cons_zero, List.set_cons_succ]
          refine wpQ_yields (.bool false) (Or.inl ⟨by rfl, fun W' hS => ?yq21⟩) ?_
          case yq21 =>
            go_simp
          try simp only [Act.put, List.setIfInBounds_toArray, List.set_cons_zero, List.set_cons_succ]
          refine wpQ_yields (.bool false) (Or.inl ⟨by rfl, fun W' hS => ?yq22⟩) ?_
          case yq22 =>
            go_simp
          try simp only [Act.put, List.setIfInBounds_toArray, List.set_cons_zero, List.set_cons_succ]
          refine wpQ_yields (.bool false) (Or.inl ⟨by rfl, fun W' hS => ?yq23⟩) ?_
          case yq23 =>
            go_simp
          try simp only [Act.put, List.setIfInBounds_toArray, List.set_cons_zero, List.set_cons_succ]
          refine wpQ_yields (.pointer (some ⟨lp, 0, none⟩)) (Or.inl ⟨by rfl, fun W' hS => ?yq24⟩) ?_
          case yq24 =>
            go_simp
          try simp only [Act.put, List.setIfInBounds_toArray, List.set_cons_zero, List.set_cons_succ]
          refine wpQ_call (.int .i64 (lf : Nat)) 20 #[.pointer (some ⟨lp, 0, none⟩)] (by rfl) (fun W' => ?yq25) (fun W' hS => ?yr25) ?_
          case yq25 =>
            go_simp
          case yr25 =>
            refine (HE3.out W' hS).mono ?_
            rintro e wy ⟨rfl, hby⟩
            exact ⟨rfl, hS.trans (hby.mono hS.size)⟩
          try simp only [Act.put, List.setIfInBounds_toArray, List.set_cons_zero, List.set_cons_succ]
          refine wpQ_yields (.pointer (some ⟨kp, 0, none⟩)) (Or.inl ⟨by rfl, fun W' hS => ?yq26⟩) ?_
          case yq26 =>
            go_simp
          try simp only [Act.put, List.setIfInBounds_toArray, List.set_cons_zero, List.set_cons_succ]
          refine wpQ_call (.int .i64 (sz : Nat)) 21 #[.pointer (some ⟨kp, 0, none⟩)] (by rfl) (fun W' => ?yq27) (fun W' hS => ?yr27) ?_
          case yq27 =>
            go_simp
          case yr27 =>
            refine (HE4.out W' hS).mono ?_
            rintro e wy ⟨rfl, rfl⟩
            exact ⟨rfl, hS⟩
          try simp only [Act.put, List.setIfInBounds_toArray, List.set_cons_zero, List.set_cons_succ]
          refine wpQ_yields (.pointer (some ⟨kp, 0, none⟩)) (Or.inl ⟨by rfl, fun W' hS => ?yq28⟩) ?_
          case yq28 =>
            go_simp
          try simp only [Act.put, List.setIfInBounds_toArray, List.set_cons_zero, List.set_cons_succ]
          refine wpQ_yields (.pointer (some ⟨kp, 0, none⟩)) (Or.inl ⟨by rfl, fun W' hS => ?yq29⟩) ?_
          case yq29 =>
            go_simp
          try simp only [Act.put, List.setIfInBounds_toArray, List.set_cons_zero, List.set_cons_succ]
          refine wpQ_yields (.pointer (some ⟨kp, 4, none⟩)) (Or.inl ⟨by rfl, fun W' hS => ?yq30⟩) ?_
          case yq30 =>
            go_simp
          try simp only [Act.put, List.setIfInBounds_toArray, List.set_cons_zero, List.set_cons_succ]
          refine wpQ_yields (.string TB) (Or.inl ⟨by rfl, fun W' hS => ?yq31⟩) ?_
          case yq31 =>
            have q0 := HK.out W' hS
            have q1 := q0.1
            have q2 := q0.2.1
            have q3 := q0.2.2
            go_simp
          try simp only [Act.put, List.setIfInBounds_toArray, List.set_cons_zero, List.set_cons_succ]
          refine wpQ_yields (.int .i64 (ub : Nat)) (Or.inl ⟨by rfl, fun W' hS => ?yq32⟩) ?_
          case yq32 =>
            go_simp
          try simp only [Act.put, List.setIfInBounds_toArray, List.set_cons_zero, List.set_cons_succ]
          refine wpQ_yields (.int .i64 (lf : Nat)) (Or.inl ⟨by rfl, fun W' hS => ?yq33⟩) ?_
          case yq33 =>
            go_simp
            try (rw [IntKind.wrap_i64] <;> omega)
          try simp only [Act.put, List.setIfInBounds_toArray, List.set_cons_zero, List.set_cons_succ]
          refine wpQ_yields (.bool false) (Or.inl ⟨by rfl, fun W' hS => ?yq34⟩) ?_
          case yq34 =>
            go_simp
          try simp only [Act.put, List.setIfInBounds_toArray, List.set_cons_zero, List.set_cons_succ]
          refine wpQ_yields (.bool false) (Or.inl ⟨by rfl, fun W' hS => ?yq35⟩) ?_
          case yq35 =>
            go_simp
          try simp only [Act.put, List.setIfInBounds_toArray, List.set_cons_zero, List.set_cons_succ]
          refine wpQuiet_nil ?_
          intro wf hwf
          go_wp2_with fail
          go_roundw
          case rel =>
            refine ⟨j + 1, by omega, by go_num, Lib.hid ⟨A.1.1, A.1.2, B.1.1, B.1.2, H11.out.2.1.grow hwf (fun k hk => .inl (.inl hk)), HFN.out.1, HFN.out.2.1, HFN.out.2.2.2.2, HFW.out, HFN.out.2.2.1, HFN.out.2.2.2.1, H11.out.2.2.trans (hwf.mono H11.out.2.2.size)⟩⟩
          case measure => simp [intOf]; omega
        · go_wp2_with fail
          rw [HSE.out]
          generalize (wr.alloc (.cells #[.bool true, .int .u16 (cnn : Nat), .int .u8 cb.toNat] 40)) = w6 at H6 ⊢
          obtain ⟨TL, hTL⟩ : ∃ TL, AL.text ⟨true, cnn, cb⟩ = TL := ⟨_, rfl⟩
          have hTLl : TL.length ≤ 17000 := by rw [← hTL]; unfold AL.text; rw [List.length_replicate]; have := Nat.mod_lt cnn (show 0 < 17000 by omega); show cnn % 17000 ≤ 17000; omega
          have HTX : Hid (∀ W, Calls Tryz.prog 14 #[.agg #[.bool true, .int .u16 (cnn : Nat), .int .u8 cb.toNat]] W fun e w' => e = .returned (.string (tx TL)) ∧ Below W.heap.size W w') := Lib.hid fun W => by
            have h := actText_any ⟨true, cnn, cb⟩ HCN.out.1 W
            rw [hTL] at h
            exact h
          obtain ⟨A, hA⟩ : ∃ x, g.renewT D TL = x := ⟨_, rfl⟩
          obtain ⟨B, hB⟩ : ∃ x, r.renew D.reff TL = x := ⟨_, rfl⟩
          have hDok : D.ok := by
            obtain ⟨tv, ⟨S, _, _, hd, _⟩, _⟩ := H6.out.2.1
            obtain ⟨_, _, _, _, hd⟩ := hd
            exact hd.good
          have hbth := both_renew HR.out.1 hDok TL (by omega)
          rw [hA, hB] at hbth
          have HBT := Lib.hid hbth
          have HAE := Lib.hid hA
          have hj16 : j ≤ 16 := by have := HCN.out.2; omega
          have HC1 : Hid (∀ W, TwoLogs (fun k => k < w.heap.size ∨ k = s) W lp p kp q g D r D.reff → Below w.heap.size w W → Calls Tryz.prog 13 #[.pointer (some ⟨lp, 0, none⟩), .string (tx TL)] W fun e w' => e = .returned (.int .i64 A.2) ∧ TwoLogs (fun k => k < w.heap.size ∨ k = s) w' lp p kp q A.1.1 A.1.2 r D.reff ∧ Keeps (fun k => k < w.heap.size ∨ k = s) W w') := Lib.hid fun W h hb => by
            have h1 := TwoLogs.renew1 h HR.out.1 (HG.out.below hb) (.inl HST.out) (by have := HR.out; omega) (by have := HR.out; omega) (by have := HR.out; omega) TL (by omega)
            rw [hA] at h1
            exact h1
          have HC2 : Hid (∀ W, TwoLogs (fun k => k < w.heap.size ∨ k = s) W lp p kp q A.1.1 A.1.2 r D.reff → Calls Tryz.prog 15 #[.pointer (some ⟨kp, 0, none⟩), .string (tx TL)] W fun e w' => e = .returned (.int .i64 B.2) ∧ TwoLogs (fun k => k < w.heap.size ∨ k = s) w' lp p kp q A.1.1 A.1.2 B.1.1 B.1.2 ∧ Keeps (fun k => k < w.heap.size ∨ k = s) W w') := Lib.hid fun W h => by
            have hR := HR.out
            have e1 : D.reff.steps = D.steps := rfl
            have e2 : D.reff.hangs = D.hangs := rfl
            have h1 := TwoLogs.renew2 h (HR.out.1.hle) (by omega) (by rw [e1]; omega) (by rw [e2]; omega) TL (by omega)
            rw [hB] at h1
            exact h1
          clear hTL hTLl hA hB hDok hbth hj16
          have HS0 : Hid (Row w6.drew s 40 [.bool true, .int .u16 (cnn : Nat), .int .u8 cb.toNat]) := Lib.hid H6.out.1.drew
          have H7 : Hid (TwoLogs (fun k => k < w.heap.size ∨ k = s) w6.drew lp p kp q g D r D.reff ∧ Below w.heap.size w w6.drew) := Lib.hid ⟨H6.out.2.1.below (below_drewK (Below.refl _ _) 1), below_drewK H6.out.2.2 1⟩
          clear H6
          refine wp_region_noPanic ?_
          refine wp_region_held_drew (S := fun W => Row W s 40 [.bool true, .int .u16 (cnn : Nat), .int .u8 cb.toNat]) (by kernel_rfl) HS0.out (fun hHeld => ?_)
          refine wpAnyH_take (i := 0) (oi := { dst := some 76, op := Op.move (Operand.tmp 13), type := 30, pos := "law.go:98", after := #[], guard := none }) (v := ?vvr_0) rfl (by kernel_rfl) (by kernel_rfl) (by kernel_rfl) (fun _ _ _ h => h) (Or.inl ⟨by rfl, ?yyr_0⟩) hHeld ?_
          case vvr_0 => exact .pointer (some ⟨lp, 0, none⟩)
          case yyr_0 =>
            intro W hS
            go_simp
          try simp only [Act.put, List.setIfInBounds_toArray, List.set_cons_zero, List.set_cons_succ]
          refine' wpAnyH_take (i := 1) (oi := { dst := some 77, op := Op.load 40 (Operand.tmp 18), type := 40, pos := "law.go:98", after := #[], guard := none }) (v := .agg #[.bool true, .int .u16 (cnn : Nat), .int .u8 cb.toNat]) rfl (by kernel_rfl) (by kernel_rfl) (by kernel_rfl) (fun _ _ _ h => h) (yieldsIf_load_mid (by rfl) _ _ rfl s 0 rfl [.bool true, .int .u16 (cnn : Nat), .int .u8 cb.toNat] _ (fun W h => (fun k v hk => by rw [Nat.zero_add, h.cell]; exact hk)) Tryz.underlying40 rfl (by kernel_rfl)) hHeld ?_
          try simp only [Act.put, List.setIfInBounds_toArray, List.set_cons_zero, List.set_cons_succ]
          refine wpAnyH_take (i := 4) (oi := { dst := some 80, op := Op.move (Operand.tmp 16), type := 34, pos := "law.go:98", after := #[], guard := none }) (v := ?vvr_4) rfl (by kernel_rfl) (by kernel_rfl) (by kernel_rfl) (fun _ _ _ h => h) (Or.inl ⟨by rfl, ?yyr_4⟩) hHeld ?_
          case vvr_4 => exact .pointer (some ⟨kp, 0, none⟩)
          case yyr_4 =>
            intro W hS
            go_simp
          try simp only [Act.put, List.setIfInBounds_toArray, List.set_cons_zero, List.set_cons_succ]
          refine' wpAnyH_take (i := 5) (oi := { dst := some 81, op := Op.load 40 (Operand.tmp 18), type := 40, pos := "law.go:98", after := #[], guard := none }) (v := .agg #[.bool true, .int .u16 (cnn : Nat), .int .u8 cb.toNat]) rfl (by kernel_rfl) (by kernel_rfl) (by kernel_rfl) (fun _ _ _ h => h) (yieldsIf_load_mid (by rfl) _ _ rfl s 0 rfl [.bool true, .int .u16 (cnn : Nat), .int .u8 cb.toNat] _ (fun W h => (fun k v hk => by rw [Nat.zero_add, h.cell]; exact hk)) Tryz.underlying40 rfl (by kernel_rfl)) hHeld ?_
          try simp only [Act.put, List.setIfInBounds_toArray, List.set_cons_zero, List.set_cons_succ]
          refine wpAnyH_ready (rs := [2]) (by kernel_rfl) (by simp) (AllReadyH.cons (o := { dst := some 78, op := Op.call { callee := Callee.value (Operand.func 14), args := #[Operand.tmp 77], argTypes := #[40] }, type := 9, pos := "law.go:98", after := #[{ on := 1, ground := Ground.data }], guard := none }) rfl (fun K hK => ?_) AllReadyH.nil)
          go_simp
          go_at_call 14
          refine (HTX.out _).mono ?_
          rintro e w7 ⟨rfl, hb7⟩
          have H8 : Hid (Row w7 s 40 [.bool true, .int .u16 (cnn : Nat), .int .u8 cb.toNat] ∧ TwoLogs (fun k => k < w.heap.size ∨ k = s) w7 lp p kp q g D r D.reff ∧ Below w.heap.size w w7) := Lib.hid ⟨HS0.out.below hb7 HS0.out.lt, H7.out.1.below hb7, H7.out.2.trans (hb7.mono H7.out.2.size)⟩
          refine hK.out _ _ H8.out.1 (fun hHeld => ?_)
          clear hK K hb7
          try simp only [Act.put, List.setIfInBounds_toArray, List.set_cons_zero, List.set_cons_succ]
          refine wpAnyH_ready (rs := [3]) (by kernel_rfl) (by simp) (AllReadyH.cons (o := { dst := some 79, op := Op.call { callee := Callee.value (Operand.func 13), args := #[Operand.tmp 76, Operand.tmp 78], argTypes := #[30, 9] }, type := 25, pos := "law.go:98", after := #[{ on := 0, ground := Ground.data }, { on := 2, ground := Ground.data }, { on := 2, ground := Ground.chain }], guard := none }) rfl (fun K hK => ?_) AllReadyH.nil)
          go_simp
          go_at_call 13
          refine (HC1.out _ H8.out.2.1 H8.out.2.2).mono ?_
          rintro e w8 ⟨rfl, ht8, hk8⟩
          have H9 : Hid (Row w8 s 40 [.bool true, .int .u16 (cnn : Nat), .int .u8 cb.toNat] ∧ TwoLogs (fun k => k < w.heap.size ∨ k = s) w8 lp p kp q A.1.1 A.1.2 r D.reff ∧ Below w.heap.size w w8) := Lib.hid ⟨(hk8.block s H8.out.1.lt (.inr rfl)).trans H8.out.1, ht8, H8.out.2.2.trans (hk8.below H8.out.2.2.size (fun k h => .inl h))⟩
          refine hK.out _ _ H9.out.1 (fun hHeld => ?_)
          clear hK K ht8 hk8
          try simp only [Act.put, List.setIfInBounds_toArray, List.set_cons_zero, List.set_cons_succ]
          refine wpAnyH_ready (rs := [6]) (by kernel_rfl) (by simp) (AllReadyH.cons (o := { dst := some 82, op := Op.call { callee := Callee.value (Operand.func 14), args := #[Operand.tmp 81], argTypes := #[40] }, type := 9, pos := "law.go:98", after := #[{ on := 5, ground := Ground.data }, { on := 3, ground := Ground.chain }], guard := none }) rfl (fun K hK => ?_) AllReadyH.nil)
          go_simp
          go_at_call 14
          refine (HTX.out _).mono ?_
          rintro e w9 ⟨rfl, hb9⟩
          have H10 : Hid (Row w9 s 40 [.bool true, .int .u16 (cnn : Nat), .int .u8 cb.toNat] ∧ TwoLogs (fun k => k < w.heap.size ∨ k = s) w9 lp p kp q A.1.1 A.1.2 r D.reff ∧ Below w.heap.size w w9) := Lib.hid ⟨H9.out.1.below hb9 H9.out.1.lt, H9.out.2.1.below hb9, H9.out.2.2.trans (hb9.mono H9.out.2.2.size)⟩
          refine hK.out _ _ H10.out.1 (fun hHeld => ?_)
          clear hK K hb9
          try simp only [Act.put, List.setIfInBounds_toArray, List.set_cons_zero, List.set_cons_succ]
          refine wpAnyH_ready (rs := [7]) (by kernel_rfl) (by simp) (AllReadyH.cons (o := { dst := some 83, op := Op.call { callee := Callee.value (Operand.func 15), args := #[Operand.tmp 80, Operand.tmp 82], argTypes := #[34, 9] }, type := 3, pos := "law.go:98", after := #[{ on := 4, ground := Ground.data }, { on := 6, ground := Ground.data }, { on := 6, ground := Ground.chain }], guard := none }) rfl (fun K hK => ?_) AllReadyH.nil)
          go_simp
          go_at_call 15
          refine (HC2.out _ H10.out.2.1).mono ?_
          rintro e w10 ⟨rfl, ht10, hk10⟩
          have H11 : Hid (Row w10 s 40 [.bool true, .int .u16 (cnn : Nat), .int .u8 cb.toNat] ∧ TwoLogs (fun k => k < w.heap.size ∨ k = s) w10 lp p kp q A.1.1 A.1.2 B.1.1 B.1.2 ∧ Below w.heap.size w w10) := Lib.hid ⟨(hk10.block s H10.out.1.lt (.inr rfl)).trans H10.out.1, ht10, H10.out.2.2.trans (hk10.below H10.out.2.2.size (fun k h => .inl h))⟩
          refine hK.out _ _ H11.out.1 (fun hHeld => ?_)
          clear hK K ht10 hk10
          try simp only [Act.put, List.setIfInBounds_toArray, List.set_cons_zero, List.set_cons_succ]
          refine wpAnyH_ready (rs := [8]) (by kernel_rfl) (by simp) (AllReadyH.cons (o := { dst := some 19, op := Op.assign (Operand.tmp 79), type := 25, pos := "law.go:98", after := #[{ on := 3, ground := Ground.data }, { on := 7, ground := Ground.chain }, { on := 0, ground := Ground.phase }, { on := 1, ground := Ground.phase }, { on := 2, ground := Ground.phase }, { on := 3, ground := Ground.phase }, { on := 4, ground := Ground.textOnly Departure.lateStores }, { on := 5, ground := Ground.textOnly Departure.lateStores }, { on := 6, ground := Ground.textOnly Departure.lateStoresUnsure }, { on := 7, ground := Ground.textOnly Departure.lateStoresUnsure }], guard := none }) rfl (fun K hK => ?_) AllReadyH.nil)
          go_simp
          refine hK.out _ _ H11.out.1 (fun hHeld => ?_)
          clear hK K
          try simp only [Act.put, List.setIfInBounds_toArray, List.set_cons_zero, List.set_cons_succ]
          refine wpAnyH_ready (rs := [9]) (by kernel_rfl) (by simp) (AllReadyH.cons (o := { dst := some 20, op := Op.assign (Operand.tmp 83), type := 3, pos := "law.go:98", after := #[{ on := 7, ground := Ground.data }, { on := 8, ground := Ground.chain }, { on := 0, ground := Ground.phase }, { on := 1, ground := Ground.phase }, { on := 2, ground := Ground.phase }, { on := 3, ground := Ground.phase }, { on := 4, ground := Ground.phase }, { on := 5, ground := Ground.phase }, { on := 6, ground := Ground.phase }, { on := 7, ground := Ground.phase }, { on := 8, ground := Ground.phase }], guard := none }) rfl (fun K hK => ?_) AllReadyH.nil)
          go_simp
          refine hK.out _ _ H11.out.1 (fun hHeld => ?_)
          clear hK K
          try simp only [Act.put, List.setIfInBounds_toArray, List.set_cons_zero, List.set_cons_succ]
          refine wpAnyH_done (by kernel_rfl) ?_ _
          refine NoPanic.normal ?_
          clear H7 H8 H9 H10 HS0 HTX HC1 HC2
          rw [HBT.out.1]
          obtain ⟨tv, hr1, hr2, hr3, ⟨S1, hd1⟩, ⟨S2, hd2⟩⟩ : ∃ tv, Row w10 lp 83 (A.1.1.cells p) ∧ Row w10 kp 37 (B.1.1.cells q tv) ∧ w10.ownsRow 0 9 1 tv B.1.1.texts.length B.1.1.vals ∧ (∃ S, DiskIs S w10 p A.1.2) ∧ (∃ S, RefIs S w10 q B.1.2) := by
            obtain ⟨tv, ⟨S, _, _, hd, hr⟩, h1, h2, h3, _⟩ := H11.out.2.1
            exact ⟨tv, h1, h2, h3, ⟨S, hd⟩, ⟨_, hr⟩⟩
          obtain ⟨av, cv, rfl⟩ := own_slice hr3
          obtain ⟨_, hb2, hbo, hcs, hch, hnm⟩ := HBT.out
          have hsB : secs B.1.2 = secs A.1.2 := by rw [hb2]; rfl
          obtain ⟨sz, hsz⟩ : ∃ x, secs A.1.2 * 128 = x := ⟨_, rfl⟩
          have hszl : sz ≤ 300000 := by
            obtain ⟨gl0, hv0, hd0⟩ := hd2
            have h1 := hd0.good.most
            rw [← hsz, ← hsB]
            unfold secs
            omega
          obtain ⟨er, her⟩ : ∃ x, B.1.1.lost = x := ⟨_, rfl⟩
          obtain ⟨nt, hnt⟩ : ∃ x, B.1.1.texts.length = x := ⟨_, rfl⟩
          obtain ⟨ub, hub⟩ : ∃ x, B.1.1.bytes.length = x := ⟨_, rfl⟩
          obtain ⟨TB, hTB⟩ : ∃ x, tx B.1.1.bytes = x := ⟨_, rfl⟩
          have hTBs : TB.size = ub := by rw [← hTB, tx_size, hub]
          have hubs : ub ≤ sz := by rw [← hub, ← hsz]; exact hbo.room
          obtain ⟨lf, hlf⟩ : ∃ x, sz - ub = x := ⟨_, rfl⟩
          have hlfI : (sz : Int) - (ub : Int) = (lf : Int) := by omega
          have hszI : (sz : Int) ≤ 300000 := by omega
          have hubI : (ub : Int) ≤ (sz : Int) := by omega
          have HE1 : Hid (∀ W', Below w10.heap.size w10 W' → Calls Tryz.prog 18 #[.pointer (some ⟨lp, 0, none⟩)] W' fun e w' => e = .returned (.int .i64 er) ∧ W' = w') := Lib.hid fun W' h => by
            have h1 := Err_any (hr1.below h hr1.lt)
            rw [hbo.err, her] at h1
            exact h1
          have HE2 : Hid (∀ W', Below w10.heap.size w10 W' → Calls Tryz.prog 19 #[.pointer (some ⟨lp, 0, none⟩)] W' fun e w' => e = .returned (.int .i64 (nt : Nat)) ∧ W' = w') := Lib.hid fun W' h => by
            have h1 := Count_any (hr1.below h hr1.lt)
            rw [hbo.count, hnt] at h1
            exact h1
          have HE3 : Hid (∀ W', Below w10.heap.size w10 W' → Calls Tryz.prog 20 #[.pointer (some ⟨lp, 0, none⟩)] W' fun e w' => e = .returned (.int .i64 (lf : Nat)) ∧ Below W'.heap.size W' w') := Lib.hid fun W' h => by
            obtain ⟨gl0, gm0, hv0, Dm0, hd0⟩ := hd1.below h
            have h1 := Left_any (hr1.below h hr1.lt) hd0 (by rw [hbo.used]; exact hbo.room)
            rw [hbo.used, hub, hsz, hlf] at h1
            exact h1
          have HE4 : Hid (∀ W', Below w10.heap.size w10 W' → Calls Tryz.prog 21 #[.pointer (some ⟨kp, 0, none⟩)] W' fun e w' => e = .returned (.int .i64 (sz : Nat)) ∧ W' = w') := Lib.hid fun W' h => by
            have h1 := refRoom_any (hr2.below h hr2.lt) (hd2.below h)
            rw [hsB, hsz] at h1
            exact h1
          have HK : Hid (∀ W', Below w10.heap.size w10 W' → W'.cell? ⟨kp, 3, none⟩ = some (.slice av nt cv) ∧ W'.cell? ⟨kp, 4, none⟩ = some (.string TB) ∧ W'.cell? ⟨kp, 5, none⟩ = some (.int .i64 er)) := Lib.hid fun W' h => by
            have hr := hr2.below h hr2.lt
            have x3 := hr.cell 3
            have x4 := hr.cell 4
            have x5 := hr.cell 5
            simp only [RL.cells, List.getElem?_cons_zero, List.getElem?_cons_succ] at x3 x4 x5
            rw [hnt] at x3
            rw [hTB] at x4
            rw [her] at x5
            exact ⟨x3, x4, x5⟩
          have HFN : Hid (B.1.2 = A.1.2.reff ∧ Both A.1.1 A.1.2 B.1.1 ∧ A.1.2.steps ≤ 5000 * (j + 1) ∧ A.1.2.hangs.length ≤ 5000 * (j + 1) ∧ B.1.1.num ≤ j + 1) := Lib.hid ⟨hb2, hbo, by have := HR.out; omega, by have := HR.out; omega, by rw [← hbo.num]; have := HR.out.1.num; have := HR.out; omega⟩
          have HFW : Hid (B.1.1.texts.length ≤ j + 1) := Lib.hid (by
            have h1 := (show A.1.1.count ≤ g.count + 1 by rw [← HAE.out]; exact (add_few g D TL).2)
            rw [hbo.count, HR.out.1.count] at h1
            have := HR.out
            omega)
          clear hr1 hr2 hr3 hd1 hd2 hb2 hbo hcs hch hnm hsB hsz hszl her hnt hub hTB hubs hlf HBT
          obtain ⟨ev, hev⟩ : ∃ x, A.2 = x := ⟨_, rfl⟩
          rw [hev]
          clear hev
          go_wp2_with fail
          refine region_quiet_lit (fun W => Below w10.heap.size w10 W) (by kernel_rfl) (by kernel_rfl) ⟨rfl, rfl, rfl, Nat.le_refl _, fun _ _ => rfl⟩ ?_
          refine wpQ_yields (.int .i64 ev) (Or.inl ⟨by rfl, fun W' hS => ?yq36⟩) ?_
          case yq36 =>
            go_simp
          try simp only [Act.put, List.setIfInBounds_toArray, List.set_cons_zero, List.set_cons_succ]
          refine wpQ_yields (.int .i64 ev) (Or.inl ⟨by rfl, fun W' hS => ?yq37⟩) ?_
          case yq37 =>
            go_simp
          try simp only [Act.put, List.setIfInBounds_toArray, List.set_cons_zero, List.set_cons_succ]
          refine wpQ_yields (.bool false) (Or.inl ⟨by rfl, fun W' hS => ?yq38⟩) ?_
          case yq38 =>
            go_simp
          try simp only [Act.put, List.setIfInBounds_toArray, List.set_cons_zero, List.set_cons_succ]
          refine wpQ_yields (.bool false) (Or.inl ⟨by rfl, fun W' hS => ?yq39⟩) ?_
          case yq39 =>
            go_simp
          try simp only [Act.put, List.setIfInBounds_toArray, List.set_cons_zero, List.set_cons_succ]
          refine wpQ_yields (.pointer (some ⟨lp, 0, none⟩)) (Or.inl ⟨by rfl, fun W' hS => ?yq40⟩) ?_
          case yq40 =>
            go_simp
          try simp only [Act.put, List.setIfInBounds_toArray, List.set_cons_zero, List.set_cons_succ]
          refine wpQ_call (.int .i64 er) 18 #[.pointer (some ⟨lp, 0, none⟩)] (by rfl) (fun W' => ?yq41) (fun W' hS => ?yr41) ?_
          case yq41 =>
            go_simp
          case yr41 =>
            refine (HE1.out W' hS).mono ?_
            rintro e wy ⟨rfl, rfl⟩
            exact ⟨rfl, hS⟩
          try simp only [Act.put, List.setIfInBounds_toArray, List.set_cons_zero, List.set_cons_succ]
          refine wpQ_yields (.pointer (some ⟨kp, 0, none⟩)) (Or.inl ⟨by rfl, fun W' hS => ?yq42⟩) ?_
          case yq42 =>
            go_simp
          try simp only [Act.put, List.setIfInBounds_toArray, List.set_cons_zero, List.set_cons_succ]
          refine wpQ_yields (.pointer (some ⟨kp, 0, none⟩)) (Or.inl ⟨by rfl, fun W' hS => ?yq43⟩) ?_
          case yq43 =>
            go_simp
          try simp only [Act.put, List.setIfInBounds_toArray, List.set_cons_zero, List.set_cons_succ]
          refine wpQ_yields (.pointer (some ⟨kp, 5, none⟩)) (Or.inl ⟨by rfl, fun W' hS => ?yq44⟩) ?_
          case yq44 =>
            go_simp
          try simp only [Act.put, List.setIfInBounds_toArray, List.set_cons_zero, List.set_cons_succ]
          refine wpQ_yields (.int .i64 er) (Or.inl ⟨by rfl, fun W' hS => ?yq45⟩) ?_
          case yq45 =>
            have q0 := HK.out W' hS
            have q1 := q0.1
            have q2 := q0.2.1
            have q3 := q0.2.2
            go_simp
          try simp only [Act.put, List.setIfInBounds_toArray, List.set_cons_zero, List.set_cons_succ]
          refine wpQ_yields (.bool false) (Or.inl ⟨by rfl, fun W' hS => ?yq46⟩) ?_
          case yq46 =>
            go_simp
          try simp only [Act.put, List.setIfInBounds_toArray, List.set_cons_zero, List.set_cons_succ]
          refine wpQ_yields (.bool false) (Or.inl ⟨by rfl, fun W' hS => ?yq47⟩) ?_
          case yq47 =>
            go_simp
          try simp only [Act.put, List.setIfInBounds_toArray, List.set_cons_zero, List.set_cons_succ]
          refine wpQ_yields (.bool false) (Or.inl ⟨by rfl, fun W' hS => ?yq48⟩) ?_
          case yq48 =>
            go_simp
          try simp only [Act.put, List.setIfInBounds_toArray, List.set_cons_zero, List.set_cons_succ]
          refine wpQ_yields (.pointer (some ⟨lp, 0, none⟩)) (Or.inl ⟨by rfl, fun W' hS => ?yq49⟩) ?_
          case yq49 =>
            go_simp
          try simp only [Act.put, List.setIfInBounds_toArray, List.set_cons_zero, List.set_cons_succ]
          refine wpQ_call (.int .i64 (nt : Nat)) 19 #[.pointer (some ⟨lp, 0, none⟩)] (by rfl) (fun W' => ?yq50) (fun W' hS => ?yr50) ?_
          case yq50 =>
            go_simp
          case yr50 =>
            refine (HE2.out W' hS).mono ?_
            rintro e wy ⟨rfl, rfl⟩
            exact ⟨rfl, hS⟩
          try simp only [Act.put, List.setIfInBounds_toArray, List.set_cons_zero, List.set_cons_succ]
          refine wpQ_yields (.pointer (some ⟨kp, 0, none⟩)) (Or.inl ⟨by rfl, fun W' hS => ?yq51⟩) ?_
          case yq51 =>
            go_simp
          try simp only [Act.put, List.setIfInBounds_toArray, List.set_cons_zero, List.set_cons_succ]
          refine wpQ_yields (.pointer (some ⟨kp, 0, none⟩)) (Or.inl ⟨by rfl, fun W' hS => ?yq52⟩) ?_
          case yq52 =>
            go_simp
          try simp only [Act.put, List.setIfInBounds_toArray, List.set_cons_zero, List.set_cons_succ]
          refine wpQ_yields (.pointer (some ⟨kp, 3, none⟩)) (Or.inl ⟨by rfl, fun W' hS => ?yq53⟩) ?_
          case yq53 =>
            go_simp
          try simp only [Act.put, List.setIfInBounds_toArray, List.set_cons_zero, List.set_cons_succ]
          refine wpQ_yields (.slice av nt cv) (Or.inl ⟨by rfl, fun W' hS => ?yq54⟩) ?_
          case yq54 =>
            have q0 := HK.out W' hS
            have q1 := q0.1
            have q2 := q0.2.1
            have q3 := q0.2.2
            go_simp
          try simp only [Act.put, List.setIfInBounds_toArray, List.set_cons_zero, List.set_cons_succ]
          refine wpQ_yields (.int .i64 (nt : Nat)) (Or.inl ⟨by rfl, fun W' hS => ?yq55⟩) ?_
          case yq55 =>
            go_simp
          try simp only [Act.put, List.setIfInBounds_toArray, List.set_cons_zero, List.set_cons_succ]
          refine wpQ_yields (.bool false) (Or.inl ⟨by rfl, fun W' hS => ?yq56⟩) ?_
          case yq56 =>
            go_simp
          try simp only [Act.put, List.setIfInBounds_toArray, List.set_cons_zero, List.set_cons_succ]
          refine wpQ_yields (.bool false) (Or.inl ⟨by rfl, fun W' hS => ?yq57⟩) ?_
          case yq57 =>
            go_simp
          try simp only [Act.put, List.setIfInBounds_toArray, List.set_cons_zero, List.set_cons_succ]
          refine wpQ_yields (.bool false) (Or.inl ⟨by rfl, fun W' hS => ?yq58⟩) ?_
          case yq58 =>
            go_simp
          try simp only [Act.put, List.setIfInBounds_toArray, List.set_cons_zero, List.set_cons_succ]
          refine wpQ_yields (.pointer (some ⟨lp, 0, none⟩)) (Or.inl ⟨by rfl, fun W' hS => ?yq59⟩) ?_
          case yq59 =>
            go_simp
          try simp only [Act.put, List.setIfInBounds_toArray, List.set_cons_zero, List.set_cons_succ]
          refine wpQ_call (.int .i64 (lf : Nat)) 20 #[.pointer (some ⟨lp, 0, none⟩)] (by rfl) (fun W' => ?yq60) (fun W' hS => ?yr60) ?_
          case yq60 =>
            go_simp
          case yr60 =>
            refine (HE3.out W' hS).mono ?_
            rintro e wy ⟨rfl, hby⟩
            exact ⟨rfl, hS.trans (hby.mono hS.size)⟩
          try simp only [Act.put, List.setIfInBounds_toArray, List.set_cons_zero, List.set_cons_succ]
          refine wpQ_yields (.pointer (some ⟨kp, 0, none⟩)) (Or.inl ⟨by rfl, fun W' hS => ?yq61⟩) ?_
          case yq61 =>
            go_simp
          try simp only [Act.put, List.setIfInBounds_toArray, List.set_cons_zero, List.set_cons_succ]
          refine wpQ_call (.int .i64 (sz : Nat)) 21 #[.pointer (some ⟨kp, 0, none⟩)] (by rfl) (fun W' => ?yq62) (fun W' hS => ?yr62) ?_
          case yq62 =>
            go_simp
          case yr62 =>
            refine (HE4.out W' hS).mono ?_
            rintro e wy ⟨rfl, rfl⟩
            exact ⟨rfl, hS⟩
          try simp only [Act.put, List.setIfInBounds_toArray, List.set_cons_zero, List.set_cons_succ]
          refine wpQ_yields (.pointer (some ⟨kp, 0, none⟩)) (Or.inl ⟨by rfl, fun W' hS => ?yq63⟩) ?_
          case yq63 =>
            go_simp
          try simp only [Act.put, List.setIfInBounds_toArray, List.set_cons_zero, List.set_cons_succ]
          refine wpQ_yields (.pointer (some ⟨kp, 0, none⟩)) (Or.inl ⟨by rfl, fun W' hS => ?yq64⟩) ?_
          case yq64 =>
            go_simp
          try simp only [Act.put, List.setIfInBounds_toArray, List.set_cons_zero, List.set_cons_succ]
          refine wpQ_yields (.pointer (some ⟨kp, 4, none⟩)) (Or.inl ⟨by rfl, fun W' hS => ?yq65⟩) ?_
          case yq65 =>
            go_simp
          try simp only [Act.put, List.setIfInBounds_toArray, List.set_cons_zero, List.set_cons_succ]
          refine wpQ_yields (.string TB) (Or.inl ⟨by rfl, fun W' hS => ?yq66⟩) ?_
          case yq66 =>
            have q0 := HK.out W' hS
            have q1 := q0.1
            have q2 := q0.2.1
            have q3 := q0.2.2
            go_simp
          try simp only [Act.put, List.setIfInBounds_toArray, List.set_cons_zero, List.set_cons_succ]
          refine wpQ_yields (.int .i64 (ub : Nat)) (Or.inl ⟨by rfl, fun W' hS => ?yq67⟩) ?_
          case yq67 =>
            go_simp
          try simp only [Act.put, List.setIfInBounds_toArray, List.set_cons_zero, List.set_cons_succ]
          refine wpQ_yields (.int .i64 (lf : Nat)) (Or.inl ⟨by rfl, fun W' hS => ?yq68⟩) ?_
          case yq68 =>
            go_simp
            try (rw [IntKind.wrap_i64] <;> omega)
          try simp only [Act.put, List.setIfInBounds_toArray, List.set_cons_zero, List.set_cons_succ]
          refine wpQ_yields (.bool false) (Or.inl ⟨by rfl, fun W' hS => ?yq69⟩) ?_
          case yq69 =>
            go_simp
          try simp only [Act.put, List.setIfInBounds_toArray, List.set_cons_zero, List.set_cons_succ]
          refine wpQ_yields (.bool false) (Or.inl ⟨by rfl, fun W' hS => ?yq70⟩) ?_
          case yq70 =>
            go_simp
          try simp only [Act.put, List.setIfInBounds_toArray, List.set_cons_zero, List.set_cons_succ]
          refine wpQuiet_nil ?_
          intro wf hwf
          go_wp2_with fail
          go_roundw
          case rel =>
            refine ⟨j + 1, by omega, by go_num, Lib.hid ⟨A.1.1, A.1.2, B.1.1, B.1.2, H11.out.2.1.grow hwf (fun k hk => .inl (.inl hk)), HFN.out.1, HFN.out.2.1, HFN.out.2.2.2.2, HFW.out, HFN.out.2.2.1, HFN.out.2.2.2.1, H11.out.2.2.trans (hwf.mono H11.out.2.2.size)⟩⟩
          case measure => simp [intOf]; omega
      · by_cases hjn : (j : Int) = (n : Int) / 2
        · have hjd : decide ((j : Int) = (n : Int) / 2) = true := by simpa using hjn
          have hjb : ((j : Int) == (n : Int) / 2) = true := by simpa using hjn
          clear hjn
          cases can
          · go_wp2_with fail
            refine (H6.out.2.1.fuse1 fn (by omega)).mono ?_
            rintro e wf ⟨rfl, htf, hkf⟩
            obtain ⟨⟨v3, hc3⟩, hf3, htg, hkg⟩ := htf.fuse2 fn (by omega)
            have e3 : ({ D.reff with fuse := ((fn : Nat) : Int) } : DS) = ({ D with fuse := ((fn : Nat) : Int) } : DS).reff := (reff_fuse D fn).symm
            rw [e3] at htg
            have hkk := hkf.trans hkg
            obtain ⟨D2, hD2⟩ : ∃ D2, ({ D with fuse := ((fn : Nat) : Int) } : DS) = D2 := ⟨_, rfl⟩
            rw [hD2] at htg
            have hst : D2.steps = D.steps := by rw [← hD2]
            have hhg : D2.hangs = D.hangs := by rw [← hD2]
            have hbt2 : Both g D2 r := by rw [← hD2]; exact HR.out.1.fuse _
            have HR2 : Hid (Both g D2 r ∧ r.num ≤ j ∧ r.texts.length ≤ j ∧ D2.steps ≤ 5000 * j ∧ D2.hangs.length ≤ 5000 * j ∧ w.heap.size ≤ s) := Lib.hid ⟨hbt2, by have := HR.out; omega, by have := HR.out; omega, by rw [hst]; have := HR.out; omega, by rw [hhg]; have := HR.out; omega, HR.out.2.2.2.2.2⟩
            have HTG := Lib.hid (And.intro htg hkk)
            clear htf hkf htg hkg e3 hkk hD2 hst hhg hbt2
            have H6b : Hid (Row (wf.setCell ⟨q, 3, none⟩ (.int .i64 (fn : Nat))) s 40 [.bool false, .int .u16 (cnn : Nat), .int .u8 cb.toNat] ∧ TwoLogs (fun k => k < w.heap.size ∨ k = s) (wf.setCell ⟨q, 3, none⟩ (.int .i64 (fn : Nat))) lp p kp q g D2 r D2.reff ∧ Below w.heap.size w (wf.setCell ⟨q, 3, none⟩ (.int .i64 (fn : Nat)))) := Lib.hid (by
              have h1 := HTG.out.1
              have h2 := HTG.out.2
              have h6 := H6.out.1
              exact ⟨(h2.block s h6.lt (.inr rfl)).trans h6, h1, H6.out.2.2.trans (h2.below H6.out.2.2.size (fun k h => .inl h))⟩)
            have x0 : (wf.setCell ⟨q, 3, none⟩ (.int .i64 (fn : Nat))).cell? ⟨wr.heap.size, 0, none⟩ = some (.bool false) := by rw [HSE.out]; exact H6b.out.1.cell 0
            go_wp2_with fail
            rw [HSE.out]
            clear x0 hc3 hf3 HTG H6 HR
            have H6 := H6b
            have HR := HR2
            clear H6b HR2
            generalize wf.setCell ⟨q, 3, none⟩ (.int .i64 (fn : Nat)) = w6 at H6 ⊢
            clear v3 wf D
            rename DS => D
            obtain ⟨TL, hTL⟩ : ∃ TL, AL.text ⟨false, cnn, cb⟩ = TL := ⟨_, rfl⟩
            have hTLl : TL.length ≤ 17000 := by rw [← hTL]; unfold AL.text; rw [List.length_replicate]; have := Nat.mod_lt cnn (show 0 < 17000 by omega); show cnn % 17000 ≤ 17000; omega
            have HTX : Hid (∀ W, Calls Tryz.prog 14 #[.agg #[.bool false, .int .u16 (cnn : Nat), .int .u8 cb.toNat]] W fun e w' => e = .returned (.string (tx TL)) ∧ Below W.heap.size W w') := Lib.hid fun W => by
              have h := actText_any ⟨false, cnn, cb⟩ HCN.out.1 W
              rw [hTL] at h
              exact h
            obtain ⟨A, hA⟩ : ∃ x, g.add D TL = x := ⟨_, rfl⟩
            obtain ⟨B, hB⟩ : ∃ x, r.add D.reff TL = x := ⟨_, rfl⟩
            have hDok : D.ok := by
              obtain ⟨tv, ⟨S, _, _, hd, _⟩, _⟩ := H6.out.2.1
              obtain ⟨_, _, _, _, hd⟩ := hd
              exact hd.good
            have hbth := both_add HR.out.1 hDok TL (by omega)
            rw [hA, hB] at hbth
            have HBT := Lib.hid hbth
            have HAE := Lib.hid hA
            have hj16 : j ≤ 16 := by have := HCN.out.2; omega
            have HC1 : Hid (∀ W, TwoLogs (fun k => k < w.heap.size ∨ k = s) W lp p kp q g D r D.reff → Below w.heap.size w W → Calls Tryz.prog 16 #[.pointer (some ⟨lp, 0, none⟩), .string (tx TL)] W fun e w' => e = .returned (.int .i64 A.2) ∧ TwoLogs (fun k => k < w.heap.size ∨ k = s) w' lp p kp q A.1.1 A.1.2 r D.reff ∧ Keeps (fun k => k < w.heap.size ∨ k = s) W w') := Lib.hid fun W h hb => by
              have h1 := TwoLogs.add1 h HR.out.1 (HG.out.below hb) (by have := HR.out; omega) (by have := HR.out; omega) (by have := HR.out; omega) TL (by omega)
              rw [hA] at h1
              exact h1
            have HC2 : Hid (∀ W, TwoLogs (fun k => k < w.heap.size ∨ k = s) W lp p kp q A.1.1 A.1.2 r D.reff → Calls Tryz.prog 17 #[.pointer (some ⟨kp, 0, none⟩), .string (tx TL)] W fun e w' => e = .returned (.int .i64 B.2) ∧ TwoLogs (fun k => k < w.heap.size ∨ k = s) w' lp p kp q A.1.1 A.1.2 B.1.1 B.1.2 ∧ Keeps (fun k => k < w.heap.size ∨ k = s) W w') := Lib.hid fun W h => by
              have hR := HR.out
              have e1 : D.reff.steps = D.steps := rfl
              have e2 : D.reff.hangs = D.hangs := rfl
              have h1 := TwoLogs.add2 h (by omega) (HR.out.1.room) (HR.out.1.hle) (by rw [e1]; omega) (by rw [e2]; omega) TL (by omega)
              rw [hB] at h1
              exact h1
            clear hTL hTLl hA hB hDok hbth hj16
            have HS0 : Hid (Row w6.drew s 40 [.bool false, .int .u16 (cnn : Nat), .int .u8 cb.toNat]) := Lib.hid H6.out.1.drew
            have H7 : Hid (TwoLogs (fun k => k < w.heap.size ∨ k = s) w6.drew lp p kp q g D r D.reff ∧ Below w.heap.size w w6.drew) := Lib.hid ⟨H6.out.2.1.below (below_drewK (Below.refl _ _) 1), below_drewK H6.out.2.2 1⟩
            clear H6
            refine wp_region_noPanic ?_
            refine wp_region_held_drew (S := fun W => Row W s 40 [.bool false, .int .u16 (cnn : Nat), .int .u8 cb.toNat]) (by kernel_rfl) HS0.out (fun hHeld => ?_)
            refine wpAnyH_take (i := 0) (oi := { dst := some 84, op := Op.move (Operand.tmp 13), type := 30, pos := "law.go:100", after := #[], guard := none }) (v := ?vvs_0) rfl (by kernel_rfl) (by kernel_rfl) (by kernel_rfl) (fun _ _ _ h => h) (Or.inl ⟨by rfl, ?yys_0⟩) hHeld ?_
            case vvs_0 => exact .pointer (some ⟨lp, 0, none⟩)
            case yys_0 =>
              intro W hS
              go_simp
            try simp only [Act.put, List.setIfInBounds_toArray, List.set_cons_zero, List.set_cons_succ]
            refine' wpAnyH_take (i := 1) (oi := { dst := some 85, op := Op.load 40 (Operand.tmp 18), type := 40, pos := "law.go:100", after := #[], guard := none }) (v := .agg #[.bool false, .int .u16 (cnn : Nat), .int .u8 cb.toNat]) rfl (by kernel_rfl) (by kernel_rfl) (by kernel_rfl) (fun _ _ _ h => h) (yieldsIf_load_mid (by rfl) _ _ rfl s 0 rfl [.bool false, .int .u16 (cnn : Nat), .int .u8 cb.toNat] _ (fun W h => (fun k v hk => by rw [Nat.zero_add, h.cell]; exact hk)) Tryz.underlying40 rfl (by kernel_rfl)) hHeld ?_
            try simp only [Act.put, List.setIfInBounds_toArray, List.set_cons_zero, List.set_cons_succ]
            refine wpAnyH_take (i := 4) (oi := { dst := some 88, op := Op.move (Operand.tmp 16), type := 34, pos := "law.go:100", after := #[], guard := none }) (v := ?vvs_4) rfl (by kernel_rfl) (by kernel_rfl) (by kernel_rfl) (fun _ _ _ h => h) (Or.inl ⟨by rfl, ?yys_4⟩) hHeld ?_
            case vvs_4 => exact .pointer (some ⟨kp, 0, none⟩)
            case yys_4 =>
              intro W hS
              go_simp
            try simp only [Act.put, List.setIfInBounds_toArray, List.set_cons_zero, List.set_cons_succ]
            refine' wpAnyH_take (i := 5) (oi := { dst := some 89, op := Op.load 40 (Operand.tmp 18), type := 40, pos := "law.go:100", after := #[], guard := none }) (v := .agg #[.bool false, .int .u16 (cnn : Nat), .int .u8 cb.toNat]) rfl (by kernel_rfl) (by kernel_rfl) (by kernel_rfl) (fun _ _ _ h => h) (yieldsIf_load_mid (by rfl) _ _ rfl s 0 rfl [.bool false, .int .u16 (cnn : Nat), .int .u8 cb.toNat] _ (fun W h => (fun k v hk => by rw [Nat.zero_add, h.cell]; exact hk)) Tryz.underlying40 rfl (by kernel_rfl)) hHeld ?_
            try simp only [Act.put, List.setIfInBounds_toArray, List.set_cons_zero, List.set_cons_succ]
            refine wpAnyH_ready (rs := [2]) (by kernel_rfl) (by simp) (AllReadyH.cons (o := { dst := some 86, op := Op.call { callee := Callee.value (Operand.func 14), args := #[Operand.tmp 85], argTypes := #[40] }, type := 9, pos := "law.go:100", after := #[{ on := 1, ground := Ground.data }], guard := none }) rfl (fun K hK => ?_) AllReadyH.nil)
            go_simp
            go_at_call 14
            refine (HTX.out _).mono ?_
            rintro e w7 ⟨rfl, hb7⟩
            have H8 : Hid (Row w7 s 40 [.bool false, .int .u16 (cnn : Nat), .int .u8 cb.toNat] ∧ TwoLogs (fun k => k < w.heap.size ∨ k = s) w7 lp p kp q g D r D.reff ∧ Below w.heap.size w w7) := Lib.hid ⟨HS0.out.below hb7 HS0.out.lt, H7.out.1.below hb7, H7.out.2.trans (hb7.mono H7.out.2.size)⟩
            refine hK.out _ _ H8.out.1 (fun hHeld => ?_)
            clear hK K hb7
            try simp only [Act.put, List.setIfInBounds_toArray, List.set_cons_zero, List.set_cons_succ]
            refine wpAnyH_ready (rs := [3]) (by kernel_rfl) (by simp) (AllReadyH.cons (o := { dst := some 87, op := Op.call { callee := Callee.value (Operand.func 16), args := #[Operand.tmp 84, Operand.tmp 86], argTypes := #[30, 9] }, type := 25, pos := "law.go:100", after := #[{ on := 0, ground := Ground.data }, { on := 2, ground := Ground.data }, { on := 2, ground := Ground.chain }], guard := none }) rfl (fun K hK => ?_) AllReadyH.nil)
            go_simp
            go_at_call 16
            refine (HC1.out _ H8.out.2.1 H8.out.2.2).mono ?_
            rintro e w8 ⟨rfl, ht8, hk8⟩
            have H9 : Hid (Row w8 s 40 [.bool false, .int .u16 (cnn : Nat), .int .u8 cb.toNat] ∧ TwoLogs (fun k => k < w.heap.size ∨ k = s) w8 lp p kp q A.1.1 A.1.2 r D.reff ∧ Below w.heap.size w w8) := Lib.hid ⟨(hk8.block s H8.out.1.lt (.inr rfl)).trans H8.out.1, ht8, H8.out.2.2.trans (hk8.below H8.out.2.2.size (fun k h => .inl h))⟩
            refine hK.out _ _ H9.out.1 (fun hHeld => ?_)
            clear hK K ht8 hk8
            try simp only [Act.put, List.setIfInBounds_toArray, List.set_cons_zero, List.set_cons_succ]
            refine wpAnyH_ready (rs := [6]) (by kernel_rfl) (by simp) (AllReadyH.cons (o := { dst := some 90, op := Op.call { callee := Callee.value (Operand.func 14), args := #[Operand.tmp 89], argTypes := #[40] }, type := 9, pos := "law.go:100", after := #[{ on := 5, ground := Ground.data }, { on := 3, ground := Ground.chain }], guard := none }) rfl (fun K hK => ?_) AllReadyH.nil)
            go_simp
            go_at_call 14
            refine (HTX.out _).mono ?_
            rintro e w9 ⟨rfl, hb9⟩
            have H10 : Hid (Row w9 s 40 [.bool false, .int .u16 (cnn : Nat), .int .u8 cb.toNat] ∧ TwoLogs (fun k => k < w.heap.size ∨ k = s) w9 lp p kp q A.1.1 A.1.2 r D.reff ∧ Below w.heap.size w w9) := Lib.hid ⟨H9.out.1.below hb9 H9.out.1.lt, H9.out.2.1.below hb9, H9.out.2.2.trans (hb9.mono H9.out.2.2.size)⟩
            refine hK.out _ _ H10.out.1 (fun hHeld => ?_)
            clear hK K hb9
            try simp only [Act.put, List.setIfInBounds_toArray, List.set_cons_zero, List.set_cons_succ]
            refine wpAnyH_ready (rs := [7]) (by kernel_rfl) (by simp) (AllReadyH.cons (o := { dst := some 91, op := Op.call { callee := Callee.value (Operand.func 17), args := #[Operand.tmp 88, Operand.tmp 90], argTypes := #[34, 9] }, type := 3, pos := "law.go:100", after := #[{ on := 4, ground := Ground.data }, { on := 6, ground := Ground.data }, { on := 6, ground := Ground.chain }], guard := none }) rfl (fun K hK => ?_) AllReadyH.nil)
            go_simp
            go_at_call 17
            refine (HC2.out _ H10.out.2.1).mono ?_
            rintro e w10 ⟨rfl, ht10, hk10⟩
            have H11 : Hid (Row w10 s 40 [.bool false, .int .u16 (cnn : Nat), .int .u8 cb.toNat] ∧ TwoLogs (fun k => k < w.heap.size ∨ k = s) w10 lp p kp q A.1.1 A.1.2 B.1.1 B.1.2 ∧ Below w.heap.size w w10) := Lib.hid ⟨(hk10.block s H10.out.1.lt (.inr rfl)).trans H10.out.1, ht10, H10.out.2.2.trans (hk10.below H10.out.2.2.size (fun k h => .inl h))⟩
            refine hK.out _ _ H11.out.1 (fun hHeld => ?_)
            clear hK K ht10 hk10
            try simp only [Act.put, List.setIfInBounds_toArray, List.set_cons_zero, List.set_cons_succ]
            refine wpAnyH_ready (rs := [8]) (by kernel_rfl) (by simp) (AllReadyH.cons (o := { dst := some 19, op := Op.assign (Operand.tmp 87), type := 25, pos := "law.go:100", after := #[{ on := 3, ground := Ground.data }, { on := 7, ground := Ground.chain }, { on := 0, ground := Ground.phase }, { on := 1, ground := Ground.phase }, { on := 2, ground := Ground.phase }, { on := 3, ground := Ground.phase }, { on := 4, ground := Ground.textOnly Departure.lateStores }, { on := 5, ground := Ground.textOnly Departure.lateStores }, { on := 6, ground := Ground.textOnly Departure.lateStoresUnsure }, { on := 7, ground := Ground.textOnly Departure.lateStoresUnsure }], guard := none }) rfl (fun K hK => ?_) AllReadyH.nil)
            go_simp
            refine hK.out _ _ H11.out.1 (fun hHeld => ?_)
            clear hK K
            try simp only [Act.put, List.setIfInBounds_toArray, List.set_cons_zero, List.set_cons_succ]
            refine wpAnyH_ready (rs := [9]) (by kernel_rfl) (by simp) (AllReadyH.cons (o := { dst := some 20, op := Op.assign (Operand.tmp 91), type := 3, pos := "law.go:100", after := #[{ on := 7, ground := Ground.data }, { on := 8, ground := Ground.chain }, { on := 0, ground := Ground.phase }, { on := 1, ground := Ground.phase }, { on := 2, ground := Ground.phase }, { on := 3, ground := Ground.phase }, { on := 4, ground := Ground.phase }, { on := 5, ground := Ground.phase }, { on := 6, ground := Ground.phase }, { on := 7, ground := Ground.phase }, { on := 8, ground := Ground.phase }], guard := none }) rfl (fun K hK => ?_) AllReadyH.nil)
            go_simp
            refine hK.out _ _ H11.out.1 (fun hHeld => ?_)
            clear hK K
            try simp only [Act.put, List.setIfInBounds_toArray, List.set_cons_zero, List.set_cons_succ]
            refine wpAnyH_done (by kernel_rfl) ?_ _
            refine NoPanic.normal ?_
            clear H7 H8 H9 H10 HS0 HTX HC1 HC2
            rw [HBT.out.1]
            obtain ⟨tv, hr1, hr2, hr3, ⟨S1, hd1⟩, ⟨S2, hd2⟩⟩ : ∃ tv, Row w10 lp 83 (A.1.1.cells p) ∧ Row w10 kp 37 (B.1.1.cells q tv) ∧ w10.ownsRow 0 9 1 tv B.1.1.texts.length B.1.1.vals ∧ (∃ S, DiskIs S w10 p A.1.2) ∧ (∃ S, RefIs S w10 q B.1.2) := by
              obtain ⟨tv, ⟨S, _, _, hd, hr⟩, h1, h2, h3, _⟩ := H11.out.2.1
              exact ⟨tv, h1, h2, h3, ⟨S, hd⟩, ⟨_, hr⟩⟩
            obtain ⟨av, cv, rfl⟩ := own_slice hr3
            obtain ⟨_, hb2, hbo, hcs, hch, hnm⟩ := HBT.out
            have hsB : secs B.1.2 = secs A.1.2 := by rw [hb2]; rfl
            obtain ⟨sz, hsz⟩ : ∃ x, secs A.1.2 * 128 = x := ⟨_, rfl⟩
            have hszl : sz ≤ 300000 := by
              obtain ⟨gl0, hv0, hd0⟩ := hd2
              have h1 := hd0.good.most
              rw [← hsz, ← hsB]
              unfold secs
              omega
            obtain ⟨er, her⟩ : ∃ x, B.1.1.lost = x := ⟨_, rfl⟩
            obtain ⟨nt, hnt⟩ : ∃ x, B.1.1.texts.length = x := ⟨_, rfl⟩
            obtain ⟨ub, hub⟩ : ∃ x, B.1.1.bytes.length = x := ⟨_, rfl⟩
            obtain ⟨TB, hTB⟩ : ∃ x, tx B.1.1.bytes = x := ⟨_, rfl⟩
            have hTBs : TB.size = ub := by rw [← hTB, tx_size, hub]
            have hubs : ub ≤ sz := by rw [← hub, ← hsz]; exact hbo.room
            obtain ⟨lf, hlf⟩ : ∃ x, sz - ub = x := ⟨_, rfl⟩
            have hlfI : (sz : Int) - (ub : Int) = (lf : Int) := by omega
            have hszI : (sz : Int) ≤ 300000 := by omega
            have hubI : (ub : Int) ≤ (sz : Int) := by omega
            have HE1 : Hid (∀ W', Below w10.heap.size w10 W' → Calls Tryz.prog 18 #[.pointer (some ⟨lp, 0, none⟩)] W' fun e w' => e = .returned (.int .i64 er) ∧ W' = w') := Lib.hid fun W' h => by
              have h1 := Err_any (hr1.below h hr1.lt)
              rw [hbo.err, her] at h1
              exact h1
            have HE2 : Hid (∀ W', Below w10.heap.size w10 W' → Calls Tryz.prog 19 #[.pointer (some ⟨lp, 0, none⟩)] W' fun e w' => e = .returned (.int .i64 (nt : Nat)) ∧ W' = w') := Lib.hid fun W' h => by
              have h1 := Count_any (hr1.below h hr1.lt)
              rw [hbo.count, hnt] at h1
              exact h1
            have HE3 : Hid (∀ W', Below w10.heap.size w10 W' → Calls Tryz.prog 20 #[.pointer (some ⟨lp, 0, none⟩)] W' fun e w' => e = .returned (.int .i64 (lf : Nat)) ∧ Below W'.heap.size W' w') := Lib.hid fun W' h => by
              obtain ⟨gl0, gm0, hv0, Dm0, hd0⟩ := hd1.below h
              have h1 := Left_any (hr1.below h hr1.lt) hd0 (by rw [hbo.used]; exact hbo.room)
              rw [hbo.used, hub, hsz, hlf] at h1
              exact h1
            have HE4 : Hid (∀ W', Below w10.heap.size w10 W' → Calls Tryz.prog 21 #[.pointer (some ⟨kp, 0, none⟩)] W' fun e w' => e = .returned (.int .i64 (sz : Nat)) ∧ W' = w') := Lib.hid fun W' h => by
              have h1 := refRoom_any (hr2.below h hr2.lt) (hd2.below h)
              rw [hsB, hsz] at h1
              exact h1
            have HK : Hid (∀ W', Below w10.heap.size w10 W' → W'.cell? ⟨kp, 3, none⟩ = some (.slice av nt cv) ∧ W'.cell? ⟨kp, 4, none⟩ = some (.string TB) ∧ W'.cell? ⟨kp, 5, none⟩ = some (.int .i64 er)) := Lib.hid fun W' h => by
              have hr := hr2.below h hr2.lt
              have x3 := hr.cell 3
              have x4 := hr.cell 4
              have x5 := hr.cell 5
              simp only [RL.cells, List.getElem?_cons_zero, List.getElem?_cons_succ] at x3 x4 x5
              rw [hnt] at x3
              rw [hTB] at x4
              rw [her] at x5
              exact ⟨x3, x4, x5⟩
            have HFN : Hid (B.1.2 = A.1.2.reff ∧ Both A.1.1 A.1.2 B.1.1 ∧ A.1.2.steps ≤ 5000 * (j + 1) ∧ A.1.2.hangs.length ≤ 5000 * (j + 1) ∧ B.1.1.num ≤ j + 1) := Lib.hid ⟨hb2, hbo, by have := HR.out; omega, by have := HR.out; omega, by rw [← hbo.num]; have := HR.out.1.num; have := HR.out; omega⟩
            have HFW : Hid (B.1.1.texts.length ≤ j + 1) := Lib.hid (by
              have h1 := (show A.1.1.count ≤ g.count + 1 by rw [← HAE.out]; exact (add_few g D TL).1)
              rw [hbo.count, HR.out.1.count] at h1
              have := HR.out
              omega)
            clear hr1 hr2 hr3 hd1 hd2 hb2 hbo hcs hch hnm hsB hsz hszl her hnt hub hTB hubs hlf HBT
            obtain ⟨ev, hev⟩ : ∃ x, A.2 = x := ⟨_, rfl⟩
            rw [hev]
            clear hev
            go_wp2_with fail
            refine region_quiet_lit (fun W => Below w10.heap.size w10 W) (by kernel_rfl) (by kernel_rfl) ⟨rfl, rfl, rfl, Nat.le_refl _, fun _ _ => rfl⟩ ?_
            refine wpQ_yields (.int .i64 ev) (Or.inl ⟨by rfl, fun W' hS => ?yq71⟩) ?_
            case yq71 =>
              go_simp
            try simp only [Act.put, List.setIfInBounds_toArray, List.set_cons_zero, List.set_cons_succ]
            refine wpQ_yields (.int .i64 ev) (Or.inl ⟨by rfl, fun W' hS => ?yq72⟩) ?_
            case yq72 =>
              go_simp
            try simp only [Act.put, List.setIfInBounds_toArray, List.set_cons_zero, List.set_cons_succ]
            refine wpQ_yields (.bool false) (Or.inl ⟨by rfl, fun W' hS => ?yq73⟩) ?_
            case yq73 =>
              go_simp
            try simp only [Act.put, List.setIfInBounds_toArray, List.set_cons_zero, List.set_cons_succ]
            refine wpQ_yields (.bool false) (Or.inl ⟨by rfl, fun W' hS => ?yq74⟩) ?_
            case yq74 =>
              go_simp
            try simp only [Act.put, List.setIfInBounds_toArray, List.set_cons_zero, List.set_cons_succ]
            refine wpQ_yields (.pointer (some ⟨lp, 0, none⟩)) (Or.inl ⟨by rfl, fun W' hS => ?yq75⟩) ?_
            case yq75 =>
              go_simp
            try simp only [Act.put, List.setIfInBounds_toArray, List.set_cons_zero, List.set_cons_succ]
            refine wpQ_call (.int .i64 er) 18 #[.pointer (some ⟨lp, 0, none⟩)] (by rfl) (fun W' => ?yq76) (fun W' hS => ?yr76) ?_
            case yq76 =>
              go_simp
            case yr76 =>
              refine (HE1.out W' hS).mono ?_
              rintro e wy ⟨rfl, rfl⟩
              exact ⟨rfl, hS⟩
            try simp only [Act.put, List.setIfInBounds_toArray, List.set_cons_zero, List.set_cons_succ]
            refine wpQ_yields (.pointer (some ⟨kp, 0, none⟩)) (Or.inl ⟨by rfl, fun W' hS => ?yq77⟩) ?_
            case yq77 =>
              go_simp
            try simp only [Act.put, List.setIfInBounds_toArray, List.set_cons_zero, List.set_cons_succ]
            refine wpQ_yields (.pointer (some ⟨kp, 0, none⟩)) (Or.inl ⟨by rfl, fun W' hS => ?yq78⟩) ?_
            case yq78 =>
              go_simp
            try simp only [Act.put, List.setIfInBounds_toArray, List.set_cons_zero, List.set_cons_succ]
            refine wpQ_yields (.pointer (some ⟨kp, 5, none⟩)) (Or.inl ⟨by rfl, fun W' hS => ?yq79⟩) ?_
            case yq79 =>
              go_simp
            try simp only [Act.put, List.setIfInBounds_toArray, List.set_cons_zero, List.set_cons_succ]
            refine wpQ_yields (.int .i64 er) (Or.inl ⟨by rfl, fun W' hS => ?yq80⟩) ?_
            case yq80 =>
              have q0 := HK.out W' hS
              have q1 := q0.1
              have q2 := q0.2.1
              have q3 := q0.2.2
              go_simp
            try simp only [Act.put, List.setIfInBounds_toArray, List.set_cons_zero, List.set_cons_succ]
            refine wpQ_yields (.bool false) (Or.inl ⟨by rfl, fun W' hS => ?yq81⟩) ?_
            case yq81 =>
              go_simp
            try simp only [Act.put, List.setIfInBounds_toArray, List.set_cons_zero, List.set_cons_succ]
            refine wpQ_yields (.bool false) (Or.inl ⟨by rfl, fun W' hS => ?yq82⟩) ?_
            case yq82 =>
              go_simp
            try simp only [Act.put, List.setIfInBounds_toArray, List.set_cons_zero, List.set_cons_succ]
            refine wpQ_yields (.bool false) (Or.inl ⟨by rfl, fun W' hS => ?yq83⟩) ?_
            case yq83 =>
              go_simp
            try simp only [Act.put, List.setIfInBounds_toArray, List.set_cons_zero, List.set_cons_succ]
            refine wpQ_yields (.pointer (some ⟨lp, 0, none⟩)) (Or.inl ⟨by rfl, fun W' hS => ?yq84⟩) ?_
            case yq84 =>
              go_simp
            try simp only [Act.put, List.setIfInBounds_toArray, List.set_cons_zero, List.set_cons_succ]
            refine wpQ_call (.int .i64 (nt : Nat)) 19 #[.pointer (some ⟨lp, 0, none⟩)] (by rfl) (fun W' => ?yq85) (fun W' hS => ?yr85) ?_
            case yq85 =>
              go_simp
            case yr85 =>
              refine (HE2.out W' hS).mono ?_
              rintro e wy ⟨rfl, rfl⟩
              exact ⟨rfl, hS⟩
            try simp only [Act.put, List.setIfInBounds_toArray, List.set_cons_zero, List.set_cons_succ]
            refine wpQ_yields (.pointer (some ⟨kp, 0, none⟩)) (Or.inl ⟨by rfl, fun W' hS => ?yq86⟩) ?_
            case yq86 =>
              go_simp
            try simp only [Act.put, List.setIfInBounds_toArray, List.set_cons_zero, List.set_cons_succ]
            refine wpQ_yields (.pointer (some ⟨kp, 0, none⟩)) (Or.inl ⟨by rfl, fun W' hS => ?yq87⟩) ?_
            case yq87 =>
              go_simp
            try simp only [Act.put, List.setIfInBounds_toArray, List.set_cons_zero, List.set_cons_succ]
            refine wpQ_yields (.pointer (some ⟨kp, 3, none⟩)) (Or.inl ⟨by rfl, fun W' hS => ?yq88⟩) ?_
            case yq88 =>
              go_simp
            try simp only [Act.put, List.setIfInBounds_toArray, List.set_cons_zero, List.set_cons_succ]
            refine wpQ_yields (.slice av nt cv) (Or.inl ⟨by rfl, fun W' hS => ?yq89⟩) ?_
            case yq89 =>
              have q0 := HK.out W' hS
              have q1 := q0.1
              have q2 := q0.2.1
              have q3 := q0.2.2
              go_simp
            try simp only [Act.put, List.setIfInBounds_toArray, List.set_cons_zero, List.set_cons_succ]
            refine wpQ_yields (.int .i64 (nt : Nat)) (Or.inl ⟨by rfl, fun W' hS => ?yq90⟩) ?_
            case yq90 =>
              go_simp
            try simp only [Act.put, List.setIfInBounds_toArray, List.set_cons_zero, List.set_cons_succ]
            refine wpQ_yields (.bool false) (Or.inl ⟨by rfl, fun W' hS => ?yq91⟩) ?_
            case yq91 =>
              go_simp
            try simp only [Act.put, List.setIfInBounds_toArray, List.set_cons_zero, List.set_cons_succ]
            refine wpQ_yields (.bool false) (Or.inl ⟨by rfl, fun W' hS => ?yq92⟩) ?_
            case yq92 =>
              go_simp
            try simp only [Act.put, List.setIfInBounds_toArray, List.set_cons_zero, List.set_cons_succ]
            refine wpQ_yields (.bool false) (Or.inl ⟨by rfl, fun W' hS => ?yq93⟩) ?_
            case yq93 =>
              go_simp
            try simp only [Act.put, List.setIfInBounds_toArray, List.set_cons_zero, List.set_cons_succ]
            refine wpQ_yields (.pointer (some ⟨lp, 0, none⟩)) (Or.inl ⟨by rfl, fun W' hS => ?yq94⟩) ?_
            case yq94 =>
              go_simp
            try simp only [Act.put, List.setIfInBounds_toArray, List.set_cons_zero, List.set_cons_succ]
            refine wpQ_call (.int .i64 (lf : Nat)) 20 #[.pointer (some ⟨lp, 0, none⟩)] (by rfl) (fun W' => ?yq95) (fun W' hS => ?yr95) ?_
            case yq95 =>
              go_simp
            case yr95 =>
              refine (HE3.out W' hS).mono ?_
              rintro e wy ⟨rfl, hby⟩
              exact ⟨rfl, hS.trans (hby.mono hS.size)⟩
            try simp only [Act.put, List.setIfInBounds_toArray, List.set_cons_zero, List.set_cons_succ]
            refine wpQ_yields (.pointer (some ⟨kp, 0, none⟩)) (Or.inl ⟨by rfl, fun W' hS => ?yq96⟩) ?_
            case yq96 =>
              go_simp
            try simp only [Act.put, List.setIfInBounds_toArray, List.set_cons_zero, List.set_cons_succ]
            refine wpQ_call (.int .i64 (sz : Nat)) 21 #[.pointer (some ⟨kp, 0, none⟩)] (by rfl) (fun W' => ?yq97) (fun W' hS => ?yr97) ?_
            case yq97 =>
              go_simp
            case yr97 =>
              refine (HE4.out W' hS).mono ?_
              rintro e wy ⟨rfl, rfl⟩
              exact ⟨rfl, hS⟩
            try simp only [Act.put, List.setIfInBounds_toArray, List.set_cons_zero, List.set_cons_succ]
            refine wpQ_yields (.pointer (some ⟨kp, 0, none⟩)) (Or.inl ⟨by rfl, fun W' hS => ?yq98⟩) ?_
            case yq98 =>
              go_simp
            try simp only [Act.put, List.setIfInBounds_toArray, List.set_cons_zero, List.set_cons_succ]
            refine wpQ_yields (.pointer (some ⟨kp, 0, none⟩)) (Or.inl ⟨by rfl, fun W' hS => ?yq99⟩) ?_
            case yq99 =>
              go_simp
            try simp only [Act.put, List.setIfInBounds_toArray, List.set_cons_zero, List.set_cons_succ]
            refine wpQ_yields (.pointer (some ⟨kp, 4, none⟩)) (Or.inl ⟨by rfl, fun W' hS => ?yq100⟩) ?_
            case yq100 =>
              go_simp
            try simp only [Act.put, List.setIfInBounds_toArray, List.set_cons_zero, List.set_cons_succ]
            refine wpQ_yields (.string TB) (Or.inl ⟨by rfl, fun W' hS => ?yq101⟩) ?_
            case yq101 =>
              have q0 := HK.out W' hS
              have q1 := q0.1
              have q2 := q0.2.1
              have q3 := q0.2.2
              go_simp
            try simp only [Act.put, List.setIfInBounds_toArray, List.set_cons_zero, List.set_cons_succ]
            refine wpQ_yields (.int .i64 (ub : Nat)) (Or.inl ⟨by rfl, fun W' hS => ?yq102⟩) ?_
            case yq102 =>
              go_simp
            try simp only [Act.put, List.setIfInBounds_toArray, List.set_cons_zero, List.set_cons_succ]
            refine wpQ_yields (.int .i64 (lf : Nat)) (Or.inl ⟨by rfl, fun W' hS => ?yq103⟩) ?_
            case yq103 =>
              go_simp
              try (rw [IntKind.wrap_i64] <;> omega)
            try simp only [Act.put, List.setIfInBounds_toArray, List.set_cons_zero, List.set_cons_succ]
            refine wpQ_yields (.bool false) (Or.inl ⟨by rfl, fun W' hS => ?yq104⟩) ?_
            case yq104 =>
              go_simp
            try simp only [Act.put, List.setIfInBounds_toArray, List.set_cons_zero, List.set_cons_succ]
            refine wpQ_yields (.bool false) (Or.inl ⟨by rfl, fun W' hS => ?yq105⟩) ?_
            case yq105 =>
              go_simp
            try simp only [Act.put, List.setIfInBounds_toArray, List.set_cons_zero, List.set_cons_succ]
            refine wpQuiet_nil ?_
            intro wf hwf
            go_wp2_with fail
            go_roundw
            case rel =>
              refine ⟨j + 1, by omega, by go_num, Lib.hid ⟨A.1.1, A.1.2, B.1.1, B.1.2, H11.out.2.1.grow hwf (fun k hk => .inl (.inl hk)), HFN.out.1, HFN.out.2.1, HFN.out.2.2.2.2, HFW.out, HFN.out.2.2.1, HFN.out.2.2.2.1, H11.out.2.2.trans (hwf.mono H11.out.2.2.size)⟩⟩
            case measure => simp [intOf]; omega
          · go_wp2_with fail
            refine (H6.out.2.1.fuse1 fn (by omega)).mono ?_
            rintro e wf ⟨rfl, htf, hkf⟩
            obtain ⟨⟨v3, hc3⟩, hf3, htg, hkg⟩ := htf.fuse2 fn (by omega)
            have e3 : ({ D.reff with fuse := ((fn : Nat) : Int) } : DS) = ({ D with fuse := ((fn : Nat) : Int) } : DS).reff := (reff_fuse D fn).symm
            rw [e3] at htg
            have hkk := hkf.trans hkg
            obtain ⟨D2, hD2⟩ : ∃ D2, ({ D with fuse := ((fn : Nat) : Int) } : DS) = D2 := ⟨_, rfl⟩
            rw [hD2] at htg
            have hst : D2.steps = D.steps := by rw [← hD2]
            have hhg : D2.hangs = D.hangs := by rw [← hD2]
            have hbt2 : Both g D2 r := by rw [← hD2]; exact HR.out.1.fuse _
            have HR2 : Hid (Both g D2 r ∧ r.num ≤ j ∧ r.texts.length ≤ j ∧ D2.steps ≤ 5000 * j ∧ D2.hangs.length ≤ 5000 * j ∧ w.heap.size ≤ s) := Lib.hid ⟨hbt2, by have := HR.out; omega, by have := HR.out; omega, by rw [hst]; have := HR.out; omega, by rw [hhg]; have := HR.out; omega, HR.out.2.2.2.2.2⟩
            have HTG := Lib.hid (And.intro htg hkk)
            clear htf hkf htg hkg e3 hkk hD2 hst hhg hbt2
            have H6b : Hid (Row (wf.setCell ⟨q, 3, none⟩ (.int .i64 (fn : Nat))) s 40 [.bool true, .int .u16 (cnn : Nat), .int .u8 cb.toNat] ∧ TwoLogs (fun k => k < w.heap.size ∨ k = s) (wf.setCell ⟨q, 3, none⟩ (.int .i64 (fn : Nat))) lp p kp q g D2 r D2.reff ∧ Below w.heap.size w (wf.setCell ⟨q, 3, none⟩ (.int .i64 (fn : Nat)))) := Lib.hid (by
              have h1 := HTG.out.1
              have h2 := HTG.out.2
              have h6 := H6.out.1
              exact ⟨(h2.block s h6.lt (.inr rfl)).trans h6, h1, H6.out.2.2.trans (h2.below H6.out.2.2.size (fun k h => .inl h))⟩)
            have x0 : (wf.setCell ⟨q, 3, none⟩ (.int .i64 (fn : Nat))).cell? ⟨wr.heap.size, 0, none⟩ = some (.bool true) := by rw [HSE.out]; exact H6b.out.1.cell 0
            go_wp2_with fail
            rw [HSE.out]
            clear x0 hc3 hf3 HTG H6 HR
            have H6 := H6b
            have HR := HR2
            clear H6b HR2
            generalize wf.setCell ⟨q, 3, none⟩ (.int .i64 (fn : Nat)) = w6 at H6 ⊢
            clear v3 wf D
            rename DS => D
            obtain ⟨TL, hTL⟩ : ∃ TL, AL.text ⟨true, cnn, cb⟩ = TL := ⟨_, rfl⟩
            have hTLl : TL.length ≤ 17000 := by rw [← hTL]; unfold AL.text; rw [List.length_replicate]; have := Nat.mod_lt cnn (show 0 < 17000 by omega); show cnn % 17000 ≤ 17000; omega
            have HTX : Hid (∀ W, Calls Tryz.prog 14 #[.agg #[.bool true, .int .u16 (cnn : Nat), .int .u8 cb.toNat]] W fun e w' => e = .returned (.string (tx TL)) ∧ Below W.heap.size W w') := Lib.hid fun W => by
              have h := actText_any ⟨true, cnn, cb⟩ HCN.out.1 W
              rw [hTL] at h
              exact h
            obtain ⟨A, hA⟩ : ∃ x, g.renewT D TL = x := ⟨_, rfl⟩
            obtain ⟨B, hB⟩ : ∃ x, r.renew D.reff TL = x := ⟨_, rfl⟩
            have hDok : D.ok := by
              obtain ⟨tv, ⟨S, _, _, hd, _⟩, _⟩ := H6.out.2.1
              obtain ⟨_, _, _, _, hd⟩ := hd
              exact hd.good
            have hbth := both_renew HR.out.1 hDok TL (by omega)
            rw [hA, hB] at hbth
            have HBT := Lib.hid hbth
            have HAE := Lib.hid hA
            have hj16 : j ≤ 16 := by have := HCN.out.2; omega
            have HC1 : Hid (∀ W, TwoLogs (fun k => k < w.heap.size ∨ k = s) W lp p kp q g D r D.reff → Below w.heap.size w W → Calls Tryz.prog 13 #[.pointer (some ⟨lp, 0, none⟩), .string (tx TL)] W fun e w' => e = .returned (.int .i64 A.2) ∧ TwoLogs (fun k => k < w.heap.size ∨ k = s) w' lp p kp q A.1.1 A.1.2 r D.reff ∧ Keeps (fun k => k < w.heap.size ∨ k = s) W w') := Lib.hid fun W h hb => by
              have h1 := TwoLogs.renew1 h HR.out.1 (HG.out.below hb) (.inl HST.out) (by have := HR.out; omega) (by have := HR.out; omega) (by have := HR.out; omega) TL (by omega)
              rw [hA] at h1
              exact h1
            have HC2 : Hid (∀ W, TwoLogs (fun k => k < w.heap.size ∨ k = s) W lp p kp q A.1.1 A.1.2 r D.reff → Calls Tryz.prog 15 #[.pointer (some ⟨kp, 0, none⟩), .string (tx TL)] W fun e w' => e = .returned (.int .i64 B.2) ∧ TwoLogs (fun k => k < w.heap.size ∨ k = s) w' lp p kp q A.1.1 A.1.2 B.1.1 B.1.2 ∧ Keeps (fun k => k < w.heap.size ∨ k = s) W w') := Lib.hid fun W h => by
              have hR := HR.out
              have e1 : D.reff.steps = D.steps := rfl
              have e2 : D.reff.hangs = D.hangs := rfl
              have h1 := TwoLogs.renew2 h (HR.out.1.hle) (by omega) (by rw [e1]; omega) (by rw [e2]; omega) TL (by omega)
              rw [hB] at h1
              exact h1
            clear hTL hTLl hA hB hDok hbth hj16
            have HS0 : Hid (Row w6.drew s 40 [.bool true, .int .u16 (cnn : Nat), .int .u8 cb.toNat]) := Lib.hid H6.out.1.drew
            have H7 : Hid (TwoLogs (fun k => k < w.heap.size ∨ k = s) w6.drew lp p kp q g D r D.reff ∧ Below w.heap.size w w6.drew) := Lib.hid ⟨H6.out.2.1.below (below_drewK (Below.refl _ _) 1), below_drewK H6.out.2.2 1⟩
            clear H6
            refine wp_region_noPanic ?_
            refine wp_region_held_drew (S := fun W => Row W s 40 [.bool true, .int .u16 (cnn : Nat), .int .u8 cb.toNat]) (by kernel_rfl) HS0.out (fun hHeld => ?_)
            refine wpAnyH_take (i := 0) (oi := { dst := some 76, op := Op.move (Operand.tmp 13), type := 30, pos := "law.go:98", after := #[], guard := none }) (v := ?vvr_0) rfl (by kernel_rfl) (by kernel_rfl) (by kernel_rfl) (fun _ _ _ h => h) (Or.inl ⟨by rfl, ?yyr_0⟩) hHeld ?_
            case vvr_0 => exact .pointer (some ⟨lp, 0, none⟩)
            case yyr_0 =>
              intro W hS
              go_simp
            try simp only [Act.put, List.setIfInBounds_toArray, List.set_cons_zero, List.set_cons_succ]
            refine' wpAnyH_take (i := 1) (oi := { dst := some 77, op := Op.load 40 (Operand.tmp 18), type := 40, pos := "law.go:98", after := #[], guard := none }) (v := .agg #[.bool true, .int .u16 (cnn : Nat), .int .u8 cb.toNat]) rfl (by kernel_rfl) (by kernel_rfl) (by kernel_rfl) (fun _ _ _ h => h) (yieldsIf_load_mid (by rfl) _ _ rfl s 0 rfl [.bool true, .int .u16 (cnn : Nat), .int .u8 cb.toNat] _ (fun W h => (fun k v hk => by rw [Nat.zero_add, h.cell]; exact hk)) Tryz.underlying40 rfl (by kernel_rfl)) hHeld ?_
            try simp only [Act.put, List.setIfInBounds_toArray, List.set_cons_zero, List.set_cons_succ]
            refine wpAnyH_take (i := 4) (oi := { dst := some 80, op := Op.move (Operand.tmp 16), type := 34, pos := "law.go:98", after := #[], guard := none }) (v := ?vvr_4) rfl (by kernel_rfl) (by kernel_rfl) (by kernel_rfl) (fun _ _ _ h => h) (Or.inl ⟨by rfl, ?yyr_4⟩) hHeld ?_
            case vvr_4 => exact .pointer (some ⟨kp, 0, none⟩)
            case yyr_4 =>
              intro W hS
              go_simp
            try simp only [Act.put, List.setIfInBounds_toArray, List.set_cons_zero, List.set_cons_succ]
            refine' wpAnyH_take (i := 5) (oi := { dst := some 81, op := Op.load 40 (Operand.tmp 18), type := 40, pos := "law.go:98", after := #[], guard := none }) (v := .agg #[.bool true, .int .u16 (cnn : Nat), .int .u8 cb.toNat]) rfl (by kernel_rfl) (by kernel_rfl) (by kernel_rfl) (fun _ _ _ h => h) (yieldsIf_load_mid (by rfl) _ _ rfl s 0 rfl [.bool true, .int .u16 (cnn : Nat), .int .u8 cb.toNat] _ (fun W h => (fun k v hk => by rw [Nat.zero_add, h.cell]; exact hk)) Tryz.underlying40 rfl (by kernel_rfl)) hHeld ?_
            try simp only [Act.put, List.setIfInBounds_toArray, List.set_cons_zero, List.set_cons_succ]
            refine wpAnyH_ready (rs := [2]) (by kernel_rfl) (by simp) (AllReadyH.cons (o := { dst := some 78, op := Op.call { callee := Callee.value (Operand.func 14), args := #[Operand.tmp 77], argTypes := #[40] }, type := 9, pos := "law.go:98", after := #[{ on := 1, ground := Ground.data }], guard := none }) rfl (fun K hK => ?_) AllReadyH.nil)
            go_simp
            go_at_call 14
            refine (HTX.out _).mono ?_
            rintro e w7 ⟨rfl, hb7⟩
            have H8 : Hid (Row w7 s 40 [.bool true, .int .u16 (cnn : Nat), .int .u8 cb.toNat] ∧ TwoLogs (fun k => k < w.heap.size ∨ k = s) w7 lp p kp q g D r D.reff ∧ Below w.heap.size w w7) := Lib.hid ⟨HS0.out.below hb7 HS0.out.lt, H7.out.1.below hb7, H7.out.2.trans (hb7.mono H7.out.2.size)⟩
            refine hK.out _ _ H8.out.1 (fun hHeld => ?_)
            clear hK K hb7
            try simp only [Act.put, List.setIfInBounds_toArray, List.set_cons_zero, List.set_cons_succ]
            refine wpAnyH_ready (rs := [3]) (by kernel_rfl) (by simp) (AllReadyH.cons (o := { dst := some 79, op := Op.call { callee := Callee.value (Operand.func 13), args := #[Operand.tmp 76, Operand.tmp 78], argTypes := #[30, 9] }, type := 25, pos := "law.go:98", after := #[{ on := 0, ground := Ground.data }, { on := 2, ground := Ground.data }, { on := 2, ground := Ground.chain }], guard := none }) rfl (fun K hK => ?_) AllReadyH.nil)
            go_simp
            go_at_call 13
            refine (HC1.out _ H8.out.2.1 H8.out.2.2).mono ?_
            rintro e w8 ⟨rfl, ht8, hk8⟩
            have H9 : Hid (Row w8 s 40 [.bool true, .int .u16 (cnn : Nat), .int .u8 cb.toNat] ∧ TwoLogs (fun k => k < w.heap.size ∨ k = s) w8 lp p kp q A.1.1 A.1.2 r D.reff ∧ Below w.heap.size w w8) := Lib.hid ⟨(hk8.block s H8.out.1.lt (.inr rfl)).trans H8.out.1, ht8, H8.out.2.2.trans (hk8.below H8.out.2.2.size (fun k h => .inl h))⟩
            refine hK.out _ _ H9.out.1 (fun hHeld => ?_)
            clear hK K ht8 hk8
            try simp only [Act.put, List.setIfInBounds_toArray, List.set_cons_zero, List.set_cons_succ]
            refine wpAnyH_ready (rs := [6]) (by kernel_rfl) (by simp) (AllReadyH.cons (o := { dst := some 82, op := Op.call { callee := Callee.value (Operand.func 14), args := #[Operand.tmp 81], argTypes := #[40] }, type := 9, pos := "law.go:98", after := #[{ on := 5, ground := Ground.data }, { on := 3, ground := Ground.chain }], guard := none }) rfl (fun K hK => ?_) AllReadyH.nil)
            go_simp
            go_at_call 14
            refine (HTX.out _).mono ?_
            rintro e w9 ⟨rfl, hb9⟩
            have H10 : Hid (Row w9 s 40 [.bool true, .int .u16 (cnn : Nat), .int .u8 cb.toNat] ∧ TwoLogs (fun k => k < w.heap.size ∨ k = s) w9 lp p kp q A.1.1 A.1.2 r D.reff ∧ Below w.heap.size w w9) := Lib.hid ⟨H9.out.1.below hb9 H9.out.1.lt, H9.out.2.1.below hb9, H9.out.2.2.trans (hb9.mono H9.out.2.2.size)⟩
            refine hK.out _ _ H10.out.1 (fun hHeld => ?_)
            clear hK K hb9
            try simp only [Act.put, List.setIfInBounds_toArray, List.set_cons_zero, List.set_cons_succ]
            refine wpAnyH_ready (rs := [7]) (by kernel_rfl) (by simp) (AllReadyH.cons (o := { dst := some 83, op := Op.call { callee := Callee.value (Operand.func 15), args := #[Operand.tmp 80, Operand.tmp 82], argTypes := #[34, 9] }, type := 3, pos := "law.go:98", after := #[{ on := 4, ground := Ground.data }, { on := 6, ground := Ground.data }, { on := 6, ground := Ground.chain }], guard := none }) rfl (fun K hK => ?_) AllReadyH.nil)
            go_simp
            go_at_call 15
            refine (HC2.out _ H10.out.2.1).mono ?_
            rintro e w10 ⟨rfl, ht10, hk10⟩
            have H11 : Hid (Row w10 s 40 [.bool true, .int .u16 (cnn : Nat), .int .u8 cb.toNat] ∧ TwoLogs (fun k => k < w.heap.size ∨ k = s) w10 lp p kp q A.1.1 A.1.2 B.1.1 B.1.2 ∧ Below w.heap.size w w10) := Lib.hid ⟨(hk10.block s H10.out.1.lt (.inr rfl)).trans H10.out.1, ht10, H10.out.2.2.trans (hk10.below H10.out.2.2.size (fun k h => .inl h))⟩
            refine hK.out _ _ H11.out.1 (fun hHeld => ?_)
            clear hK K ht10 hk10
            try simp only [Act.put, List.setIfInBounds_toArray, List.set_cons_zero, List.set_cons_succ]
            refine wpAnyH_ready (rs := [8]) (by kernel_rfl) (by simp) (AllReadyH.cons (o := { dst := some 19, op := Op.assign (Operand.tmp 79), type := 25, pos := "law.go:98", after := #[{ on := 3, ground := Ground.data }, { on := 7, ground := Ground.chain }, { on := 0, ground := Ground.phase }, { on := 1, ground := Ground.phase }, { on := 2, ground := Ground.phase }, { on := 3, ground := Ground.phase }, { on := 4, ground := Ground.textOnly Departure.lateStores }, { on := 5, ground := Ground.textOnly Departure.lateStores }, { on := 6, ground := Ground.textOnly Departure.lateStoresUnsure }, { on := 7, ground := Ground.textOnly Departure.lateStoresUnsure }], guard := none }) rfl (fun K hK => ?_) AllReadyH.nil)
            go_simp
            refine hK.out _ _ H11.out.1 (fun hHeld => ?_)
            clear hK K
            try simp only [Act.put, List.setIfInBounds_toArray, List.set_cons_zero, List.set_cons_succ]
            refine wpAnyH_ready (rs := [9]) (by kernel_rfl) (by simp) (AllReadyH.cons (o := { dst := some 20, op := Op.assign (Operand.tmp 83), type := 3, pos := "law.go:98", after := #[{ on := 7, ground := Ground.data }, { on := 8, ground := Ground.chain }, { on := 0, ground := Ground.phase }, { on := 1, ground := Ground.phase }, { on := 2, ground := Ground.phase }, { on := 3, ground := Ground.phase }, { on := 4, ground := Ground.phase }, { on := 5, ground := Ground.phase }, { on := 6, ground := Ground.phase }, { on := 7, ground := Ground.phase }, { on := 8, ground := Ground.phase }], guard := none }) rfl (fun K hK => ?_) AllReadyH.nil)
            go_simp
            refine hK.out _ _ H11.out.1 (fun hHeld => ?_)
            clear hK K
            try simp only [Act.put, List.setIfInBounds_toArray, List.set_cons_zero, List.set_cons_succ]
            refine wpAnyH_done (by kernel_rfl) ?_ _
            refine NoPanic.normal ?_
            clear H7 H8 H9 H10 HS0 HTX HC1 HC2
            rw [HBT.out.1]
            obtain ⟨tv, hr1, hr2, hr3, ⟨S1, hd1⟩, ⟨S2, hd2⟩⟩ : ∃ tv, Row w10 lp 83 (A.1.1.cells p) ∧ Row w10 kp 37 (B.1.1.cells q tv) ∧ w10.ownsRow 0 9 1 tv B.1.1.texts.length B.1.1.vals ∧ (∃ S, DiskIs S w10 p A.1.2) ∧ (∃ S, RefIs S w10 q B.1.2) := by
              obtain ⟨tv, ⟨S, _, _, hd, hr⟩, h1, h2, h3, _⟩ := H11.out.2.1
              exact ⟨tv, h1, h2, h3, ⟨S, hd⟩, ⟨_, hr⟩⟩
            obtain ⟨av, cv, rfl⟩ := own_slice hr3
            obtain ⟨_, hb2, hbo, hcs, hch, hnm⟩ := HBT.out
            have hsB : secs B.1.2 = secs A.1.2 := by rw [hb2]; rfl
            obtain ⟨sz, hsz⟩ : ∃ x, secs A.1.2 * 128 = x := ⟨_, rfl⟩
            have hszl : sz ≤ 300000 := by
              obtain ⟨gl0, hv0, hd0⟩ := hd2
              have h1 := hd0.good.most
              rw [← hsz, ← hsB]
              unfold secs
              omega
            obtain ⟨er, her⟩ : ∃ x, B.1.1.lost = x := ⟨_, rfl⟩
            obtain ⟨nt, hnt⟩ : ∃ x, B.1.1.texts.length = x := ⟨_, rfl⟩
            obtain ⟨ub, hub⟩ : ∃ x, B.1.1.bytes.length = x := ⟨_, rfl⟩
            obtain ⟨TB, hTB⟩ : ∃ x, tx B.1.1.bytes = x := ⟨_, rfl⟩
            have hTBs : TB.size = ub := by rw [← hTB, tx_size, hub]
            have hubs : ub ≤ sz := by rw [← hub, ← hsz]; exact hbo.room
            obtain ⟨lf, hlf⟩ : ∃ x, sz - ub = x := ⟨_, rfl⟩
            have hlfI : (sz : Int) - (ub : Int) = (lf : Int) := by omega
            have hszI : (sz : Int) ≤ 300000 := by omega
            have hubI : (ub : Int) ≤ (sz : Int) := by omega
            have HE1 : Hid (∀ W', Below w10.heap.size w10 W' → Calls Tryz.prog 18 #[.pointer (some ⟨lp, 0, none⟩)] W' fun e w' => e = .returned (.int .i64 er) ∧ W' = w') := Lib.hid fun W' h => by
              have h1 := Err_any (hr1.below h hr1.lt)
              rw [hbo.err, her] at h1
              exact h1
            have HE2 : Hid (∀ W', Below w10.heap.size w10 W' → Calls Tryz.prog 19 #[.pointer (some ⟨lp, 0, none⟩)] W' fun e w' => e = .returned (.int .i64 (nt : Nat)) ∧ W' = w') := Lib.hid fun W' h => by
              have h1 := Count_any (hr1.below h hr1.lt)
              rw [hbo.count, hnt] at h1
              exact h1
            have HE3 : Hid (∀ W', Below w10.heap.size w10 W' → Calls Tryz.prog 20 #[.pointer (some ⟨lp, 0, none⟩)] W' fun e w' => e = .returned (.int .i64 (lf : Nat)) ∧ Below W'.heap.size W' w') := Lib.hid fun W' h => by
              obtain ⟨gl0, gm0, hv0, Dm0, hd0⟩ := hd1.below h
              have h1 := Left_any (hr1.below h hr1.lt) hd0 (by rw [hbo.used]; exact hbo.room)
              rw [hbo.used, hub, hsz, hlf] at h1
              exact h1
            have HE4 : Hid (∀ W', Below w10.heap.size w10 W' → Calls Tryz.prog 21 #[.pointer (some ⟨kp, 0, none⟩)] W' fun e w' => e = .returned (.int .i64 (sz : Nat)) ∧ W' = w') := Lib.hid fun W' h => by
              have h1 := refRoom_any (hr2.below h hr2.lt) (hd2.below h)
              rw [hsB, hsz] at h1
              exact h1
            have HK : Hid (∀ W', Below w10.heap.size w10 W' → W'.cell? ⟨kp, 3, none⟩ = some (.slice av nt cv) ∧ W'.cell? ⟨kp, 4, none⟩ = some (.string TB) ∧ W'.cell? ⟨kp, 5, none⟩ = some (.int .i64 er)) := Lib.hid fun W' h => by
              have hr := hr2.below h hr2.lt
              have x3 := hr.cell 3
              have x4 := hr.cell 4
              have x5 := hr.cell 5
              simp only [RL.cells, List.getElem?_cons_zero, List.getElem?_cons_succ] at x3 x4 x5
              rw [hnt] at x3
              rw [hTB] at x4
              rw [her] at x5
              exact ⟨x3, x4, x5⟩
            have HFN : Hid (B.1.2 = A.1.2.reff ∧ Both A.1.1 A.1.2 B.1.1 ∧ A.1.2.steps ≤ 5000 * (j + 1) ∧ A.1.2.hangs.length ≤ 5000 * (j + 1) ∧ B.1.1.num ≤ j + 1) := Lib.hid ⟨hb2, hbo, by have := HR.out; omega, by have := HR.out; omega, by rw [← hbo.num]; have := HR.out.1.num; have := HR.out; omega⟩
            have HFW : Hid (B.1.1.texts.length ≤ j + 1) := Lib.hid (by
              have h1 := (show A.1.1.count ≤ g.count + 1 by rw [← HAE.out]; exact (add_few g D TL).2)
              rw [hbo.count, HR.out.1.count] at h1
              have := HR.out
              omega)
            clear hr1 hr2 hr3 hd1 hd2 hb2 hbo hcs hch hnm hsB hsz hszl her hnt hub hTB hubs hlf HBT
            obtain ⟨ev, hev⟩ : ∃ x, A.2 = x := ⟨_, rfl⟩
            rw [hev]
            clear hev
            go_wp2_with fail
            refine region_quiet_lit (fun W => Below w10.heap.size w10 W) (by kernel_rfl) (by kernel_rfl) ⟨rfl, rfl, rfl, Nat.le_refl _, fun _ _ => rfl⟩ ?_
            refine wpQ_yields (.int .i64 ev) (Or.inl ⟨by rfl, fun W' hS => ?yq106⟩) ?_
            case yq106 =>
              go_simp
            try simp only [Act.put, List.setIfInBounds_toArray, List.set_cons_zero, List.set_cons_succ]
            refine wpQ_yields (.int .i64 ev) (Or.inl ⟨by rfl, fun W' hS => ?yq107⟩) ?_
            case yq107 =>
              go_simp
            try simp only [Act.put, List.setIfInBounds_toArray, List.set_cons_zero, List.set_cons_succ]
            refine wpQ_yields (.bool false) (Or.inl ⟨by rfl, fun W' hS => ?yq108⟩) ?_
            case yq108 =>
              go_simp
            try simp only [Act.put, List.setIfInBounds_toArray, List.set_cons_zero, List.set_cons_succ]
            refine wpQ_yields (.bool false) (Or.inl ⟨by rfl, fun W' hS => ?yq109⟩) ?_
            case yq109 =>
              go_simp
            try simp only [Act.put, List.setIfInBounds_toArray, List.set_cons_zero, List.set_cons_succ]
            refine wpQ_yields (.pointer (some ⟨lp, 0, none⟩)) (Or.inl ⟨by rfl, fun W' hS => ?yq110⟩) ?_
            case yq110 =>
              go_simp
            try simp only [Act.put, List.setIfInBounds_toArray, List.set_cons_zero, List.set_cons_succ]
            refine wpQ_call (.int .i64 er) 18 #[.pointer (some ⟨lp, 0, none⟩)] (by rfl) (fun W' => ?yq111) (fun W' hS => ?yr111) ?_
            case yq111 =>
              go_simp
            case yr111 =>
              refine (HE1.out W' hS).mono ?_
              rintro e wy ⟨rfl, rfl⟩
              exact ⟨rfl, hS⟩
            try simp only [Act.put, List.setIfInBounds_toArray, List.set_cons_zero, List.set_cons_succ]
            refine wpQ_yields (.pointer (some ⟨kp, 0, none⟩)) (Or.inl ⟨by rfl, fun W' hS => ?yq112⟩) ?_
            case yq112 =>
              go_simp
            try simp only [Act.put, List.setIfInBounds_toArray, List.set_cons_zero, List.set_cons_succ]
            refine wpQ_yields (.pointer (some ⟨kp, 0, none⟩)) (Or.inl ⟨by rfl, fun W' hS => ?yq113⟩) ?_
            case yq113 =>
              go_simp
            try simp only [Act.put, List.setIfInBounds_toArray, List.set_cons_zero, List.set_cons_succ]
            refine wpQ_yields (.pointer (some ⟨kp, 5, none⟩)) (Or.inl ⟨by rfl, fun W' hS => ?yq114⟩) ?_
            case yq114 =>
              go_simp
            try simp only [Act.put, List.setIfInBounds_toArray, List.set_cons_zero, List.set_cons_succ]
            refine wpQ_yields (.int .i64 er) (Or.inl ⟨by rfl, fun W' hS => ?yq115⟩) ?_
            case yq115 =>
              have q0 := HK.out W' hS
              have q1 := q0.1
              have q2 := q0.2.1
              have q3 := q0.2.2
              go_simp
            try simp only [Act.put, List.setIfInBounds_toArray, List.set_cons_zero, List.set_cons_succ]
            refine wpQ_yields (.bool false) (Or.inl ⟨by rfl, fun W' hS => ?yq116⟩) ?_
            case yq116 =>
              go_simp
            try simp only [Act.put, List.setIfInBounds_toArray, List.set_cons_zero, List.set_cons_succ]
            refine wpQ_yields (.bool false) (Or.inl ⟨by rfl, fun W' hS => ?yq117⟩) ?_
            case yq117 =>
              go_simp
            try simp only [Act.put, List.setIfInBounds_toArray, List.set_cons_zero, List.set_cons_succ]
            refine wpQ_yields (.bool false) (Or.inl ⟨by rfl, fun W' hS => ?yq118⟩) ?_
            case yq118 =>
              go_simp
            try simp only [Act.put, List.setIfInBounds_toArray, List.set_cons_zero, List.set_cons_succ]
            refine wpQ_yields (.pointer (some ⟨lp, 0, none⟩)) (Or.inl ⟨by rfl, fun W' hS => ?yq119⟩) ?_
            case yq119 =>
              go_simp
            try simp only [Act.put, List.setIfInBounds_toArray, List.set_cons_zero, List.set_cons_succ]
            refine wpQ_call (.int .i64 (nt : Nat)) 19 #[.pointer (some ⟨lp, 0, none⟩)] (by rfl) (fun W' => ?yq120) (fun W' hS => ?yr120) ?_
            case yq120 =>
              go_simp
            case yr120 =>
              refine (HE2.out W' hS).mono ?_
              rintro e wy ⟨rfl, rfl⟩
              exact ⟨rfl, hS⟩
            try simp only [Act.put, List.setIfInBounds_toArray, List.set_cons_zero, List.set_cons_succ]
            refine wpQ_yields (.pointer (some ⟨kp, 0, none⟩)) (Or.inl ⟨by rfl, fun W' hS => ?yq121⟩) ?_
            case yq121 =>
              go_simp
            try simp only [Act.put, List.setIfInBounds_toArray, List.set_cons_zero, List.set_cons_succ]
            refine wpQ_yields (.pointer (some ⟨kp, 0, none⟩)) (Or.inl ⟨by rfl, fun W' hS => ?yq122⟩) ?_
            case yq122 =>
              go_simp
            try simp only [Act.put, List.setIfInBounds_toArray, List.set_cons_zero, List.set_cons_succ]
            refine wpQ_yields (.pointer (some ⟨kp, 3, none⟩)) (Or.inl ⟨by rfl, fun W' hS => ?yq123⟩) ?_
            case yq123 =>
              go_simp
            try simp only [Act.put, List.setIfInBounds_toArray, List.set_cons_zero, List.set_cons_succ]
            refine wpQ_yields (.slice av nt cv) (Or.inl ⟨by rfl, fun W' hS => ?yq124⟩) ?_
            case yq124 =>
              have q0 := HK.out W' hS
              have q1 := q0.1
              have q2 := q0.2.1
              have q3 := q0.2.2
              go_simp
            try simp only [Act.put, List.setIfInBounds_toArray, List.set_cons_zero, List.set_cons_succ]
            refine wpQ_yields (.int .i64 (nt : Nat)) (Or.inl ⟨by rfl, fun W' hS => ?yq125⟩) ?_
            case yq125 =>
              go_simp
            try simp only [Act.put, List.setIfInBounds_toArray, List.set_cons_zero, List.set_cons_succ]
            refine wpQ_yields (.bool false) (Or.inl ⟨by rfl, fun W' hS => ?yq126⟩) ?_
            case yq126 =>
              go_simp
            try simp only [Act.put, List.setIfInBounds_toArray, List.set_cons_zero, List.set_cons_succ]
            refine wpQ_yields (.bool false) (Or.inl ⟨by rfl, fun W' hS => ?yq127⟩) ?_
            case yq127 =>
              go_simp
            try simp only [Act.put, List.setIfInBounds_toArray, List.set_cons_zero, List.set_cons_succ]
            refine wpQ_yields (.bool false) (Or.inl ⟨by rfl, fun W' hS => ?yq128⟩) ?_
            case yq128 =>
              go_simp
            try simp only [Act.put, List.setIfInBounds_toArray, List.set_cons_zero, List.set_cons_succ]
            refine wpQ_yields (.pointer (some ⟨lp, 0, none⟩)) (Or.inl ⟨by rfl, fun W' hS => ?yq129⟩) ?_
            case yq129 =>
              go_simp
            try simp only [Act.put, List.setIfInBounds_toArray, List.set_cons_zero, List.set_cons_succ]
            refine wpQ_call (.int .i64 (lf : Nat)) 20 #[.pointer (some ⟨lp, 0, none⟩)] (by rfl) (fun W' => ?yq130) (fun W' hS => ?yr130) ?_
            case yq130 =>
              go_simp
            case yr130 =>
              refine (HE3.out W' hS).mono ?_
              rintro e wy ⟨rfl, hby⟩
              exact ⟨rfl, hS.trans (hby.mono hS.size)⟩
            try simp only [Act.put, List.setIfInBounds_toArray, List.set_cons_zero, List.set_cons_succ]
            refine wpQ_yields (.pointer (some ⟨kp, 0, none⟩)) (Or.inl ⟨by rfl, fun W' hS => ?yq131⟩) ?_
            case yq131 =>
              go_simp
            try simp only [Act.put, List.setIfInBounds_toArray, List.set_cons_zero, List.set_cons_succ]
            refine wpQ_call (.int .i64 (sz : Nat)) 21 #[.pointer (some ⟨kp, 0, none⟩)] (by rfl) (fun W' => ?yq132) (fun W' hS => ?yr132) ?_
            case yq132 =>
              go_simp
            case yr132 =>
              refine (HE4.out W' hS).mono ?_
              rintro e wy ⟨rfl, rfl⟩
              exact ⟨rfl, hS⟩
            try simp only [Act.put, List.setIfInBounds_toArray, List.set_cons_zero, List.set_cons_succ]
            refine wpQ_yields (.pointer (some ⟨kp, 0, none⟩)) (Or.inl ⟨by rfl, fun W' hS => ?yq133⟩) ?_
            case yq133 =>
              go_simp
            try simp only [Act.put, List.setIfInBounds_toArray, List.set_cons_zero, List.set_cons_succ]
            refine wpQ_yields (.pointer (some ⟨kp, 0, none⟩)) (Or.inl ⟨by rfl, fun W' hS => ?yq134⟩) ?_
            case yq134 =>
              go_simp
            try simp only [Act.put, List.setIfInBounds_toArray, List.set_cons_zero, List.set_cons_succ]
            refine wpQ_yields (.pointer (some ⟨kp, 4, none⟩)) (Or.inl ⟨by rfl, fun W' hS => ?yq135⟩) ?_
            case yq135 =>
              go_simp
            try simp only [Act.put, List.setIfInBounds_toArray, List.set_cons_zero, List.set_cons_succ]
            refine wpQ_yields (.string TB) (Or.inl ⟨by rfl, fun W' hS => ?yq136⟩) ?_
            case yq136 =>
              have q0 := HK.out W' hS
              have q1 := q0.1
              have q2 := q0.2.1
              have q3 := q0.2.2
              go_simp
            try simp only [Act.put, List.setIfInBounds_toArray, List.set_cons_zero, List.set_cons_succ]
            refine wpQ_yields (.int .i64 (ub : Nat)) (Or.inl ⟨by rfl, fun W' hS => ?yq137⟩) ?_
            case yq137 =>
              go_simp
            try simp only [Act.put, List.setIfInBounds_toArray, List.set_cons_zero, List.set_cons_succ]
            refine wpQ_yields (.int .i64 (lf : Nat)) (Or.inl ⟨by rfl, fun W' hS => ?yq138⟩) ?_
            case yq138 =>
              go_simp
              try (rw [IntKind.wrap_i64] <;> omega)
            try simp only [Act.put, List.setIfInBounds_toArray, List.set_cons_zero, List.set_cons_succ]
            refine wpQ_yields (.bool false) (Or.inl ⟨by rfl, fun W' hS => ?yq139⟩) ?_
            case yq139 =>
              go_simp
            try simp only [Act.put, List.setIfInBounds_toArray, List.set_cons_zero, List.set_cons_succ]
            refine wpQ_yields (.bool false) (Or.inl ⟨by rfl, fun W' hS => ?yq140⟩) ?_
            case yq140 =>
              go_simp
            try simp only [Act.put, List.setIfInBounds_toArray, List.set_cons_zero, List.set_cons_succ]
            refine wpQuiet_nil ?_
            intro wf hwf
            go_wp2_with fail
            go_roundw
            case rel =>
              refine ⟨j + 1, by omega, by go_num, Lib.hid ⟨A.1.1, A.1.2, B.1.1, B.1.2, H11.out.2.1.grow hwf (fun k hk => .inl (.inl hk)), HFN.out.1, HFN.out.2.1, HFN.out.2.2.2.2, HFW.out, HFN.out.2.2.1, HFN.out.2.2.2.1, H11.out.2.2.trans (hwf.mono H11.out.2.2.size)⟩⟩
            case measure => simp [intOf]; omega
        · have hjd : decide ((j : Int) = (n : Int) / 2) = false := by simpa using hjn
          have hjb : ((j : Int) == (n : Int) / 2) = false := by simpa using hjn
          clear hjn
          cases can
          · go_wp2_with fail
            rw [HSE.out]
            generalize (wr.alloc (.cells #[.bool false, .int .u16 (cnn : Nat), .int .u8 cb.toNat] 40)) = w6 at H6 ⊢
            obtain ⟨TL, hTL⟩ : ∃ TL, AL.text ⟨false, cnn, cb⟩ = TL := ⟨_, rfl⟩
            have hTLl : TL.length ≤ 17000 := by rw [← hTL]; unfold AL.text; rw [List.length_replicate]; have := Nat.mod_lt cnn (show 0 < 17000 by omega); show cnn % 17000 ≤ 17000; omega
            have HTX : Hid (∀ W, Calls Tryz.prog 14 #[.agg #[.bool false, .int .u16 (cnn : Nat), .int .u8 cb.toNat]] W fun e w' => e = .returned (.string (tx TL)) ∧ Below W.heap.size W w') := Lib.hid fun W => by
              have h := actText_any ⟨false, cnn, cb⟩ HCN.out.1 W
              rw [hTL] at h
              exact h
            obtain ⟨A, hA⟩ : ∃ x, g.add D TL = x := ⟨_, rfl⟩
            obtain ⟨B, hB⟩ : ∃ x, r.add D.reff TL = x := ⟨_, rfl⟩
            have hDok : D.ok := by
              obtain ⟨tv, ⟨S, _, _, hd, _⟩, _⟩ := H6.out.2.1
              obtain ⟨_, _, _, _, hd⟩ := hd
              exact hd.good
            have hbth := both_add HR.out.1 hDok TL (by omega)
            rw [hA, hB] at hbth
            have HBT := Lib.hid hbth
            have HAE := Lib.hid hA
            have hj16 : j ≤ 16 := by have := HCN.out.2; omega
            have HC1 : Hid (∀ W, TwoLogs (fun k => k < w.heap.size ∨ k = s) W lp p kp q g D r D.reff → Below w.heap.size w W → Calls Tryz.prog 16 #[.pointer (some ⟨lp, 0, none⟩), .string (tx TL)] W fun e w' => e = .returned (.int .i64 A.2) ∧ TwoLogs (fun k => k < w.heap.size ∨ k = s) w' lp p kp q A.1.1 A.1.2 r D.reff ∧ Keeps (fun k => k < w.heap.size ∨ k = s) W w') := Lib.hid fun W h hb => by
              have h1 := TwoLogs.add1 h HR.out.1 (HG.out.below hb) (by have := HR.out; omega) (by have := HR.out; omega) (by have := HR.out; omega) TL (by omega)
              rw [hA] at h1
              exact h1
            have HC2 : Hid (∀ W, TwoLogs (fun k => k < w.heap.size ∨ k = s) W lp p kp q A.1.1 A.1.2 r D.reff → Calls Tryz.prog 17 #[.pointer (some ⟨kp, 0, none⟩), .string (tx TL)] W fun e w' => e = .returned (.int .i64 B.2) ∧ TwoLogs (fun k => k < w.heap.size ∨ k = s) w' lp p kp q A.1.1 A.1.2 B.1.1 B.1.2 ∧ Keeps (fun k => k < w.heap.size ∨ k = s) W w') := Lib.hid fun W h => by
              have hR := HR.out
              have e1 : D.reff.steps = D.steps := rfl
              have e2 : D.reff.hangs = D.hangs := rfl
              have h1 := TwoLogs.add2 h (by omega) (HR.out.1.room) (HR.out.1.hle) (by rw [e1]; omega) (by rw [e2]; omega) TL (by omega)
              rw [hB] at h1
              exact h1
            clear hTL hTLl hA hB hDok hbth hj16
            have HS0 : Hid (Row w6.drew s 40 [.bool false, .int .u16 (cnn : Nat), .int .u8 cb.toNat]) := Lib.hid H6.out.1.drew
            have H7 : Hid (TwoLogs (fun k => k < w.heap.size ∨ k = s) w6.drew lp p kp q g D r D.reff ∧ Below w.heap.size w w6.drew) := Lib.hid ⟨H6.out.2.1.below (below_drewK (Below.refl _ _) 1), below_drewK H6.out.2.2 1⟩
            clear H6
            refine wp_region_noPanic ?_
            refine wp_region_held_drew (S := fun W => Row W s 40 [.bool false, .int .u16 (cnn : Nat), .int .u8 cb.toNat]) (by kernel_rfl) HS0.out (fun hHeld => ?_)
            refine wpAnyH_take (i := 0) (oi := { dst := some 84, op := Op.move (Operand.tmp 13), type := 30, pos := "law.go:100", after := #[], guard := none }) (v := ?vvs_0) rfl (by kernel_rfl) (by kernel_rfl) (by kernel_rfl) (fun _ _ _ h => h) (Or.inl ⟨by rfl, ?yys_0⟩) hHeld ?_
            case vvs_0 => exact .pointer (some ⟨lp, 0, none⟩)
            case yys_0 =>
              intro W hS
              go_simp
            try simp only [Act.put, List.setIfInBounds_toArray, List.set_cons_zero, List.set_cons_succ]
            refine' wpAnyH_take (i := 1) (oi := { dst := some 85, op := Op.load 40 (Operand.tmp 18), type := 40, pos := "law.go:100", after := #[], guard := none }) (v := .agg #[.bool false, .int .u16 (cnn : Nat), .int .u8 cb.toNat]) rfl (by kernel_rfl) (by kernel_rfl) (by kernel_rfl) (fun _ _ _ h => h) (yieldsIf_load_mid (by rfl) _ _ rfl s 0 rfl [.bool false, .int .u16 (cnn : Nat), .int .u8 cb.toNat] _ (fun W h => (fun k v hk => by rw [Nat.zero_add, h.cell]; exact hk)) Tryz.underlying40 rfl (by kernel_rfl)) hHeld ?_
            try simp only [Act.put, List.setIfInBounds_toArray, List.set_cons_zero, List.set_cons_succ]
            refine wpAnyH_take (i := 4) (oi := { dst := some 88, op := Op.move (Operand.tmp 16), type := 34, pos := "law.go:100", after := #[], guard := none }) (v := ?vvs_4) rfl (by kernel_rfl) (by kernel_rfl) (by kernel_rfl) (fun _ _ _ h => h) (Or.inl ⟨by rfl, ?yys_4⟩) hHeld ?_
            case vvs_4 => exact .pointer (some ⟨kp, 0, none⟩)
            case yys_4 =>
              intro W hS
              go_simp
            try simp only [Act.put, List.setIfInBounds_toArray, List.set_cons_zero, List.set_cons_succ]
            refine' wpAnyH_take (i := 5) (oi := { dst := some 89, op := Op.load 40 (Operand.tmp 18), type := 40, pos := "law.go:100", after := #[], guard := none }) (v := .agg #[.bool false, .int .u16 (cnn : Nat), .int .u8 cb.toNat]) rfl (by kernel_rfl) (by kernel_rfl) (by kernel_rfl) (fun _ _ _ h => h) (yieldsIf_load_mid (by rfl) _ _ rfl s 0 rfl [.bool false, .int .u16 (cnn : Nat), .int .u8 cb.toNat] _ (fun W h => (fun k v hk => by rw [Nat.zero_add, h.cell]; exact hk)) Tryz.underlying40 rfl (by kernel_rfl)) hHeld ?_
            try simp only [Act.put, List.setIfInBounds_toArray, List.set_cons_zero, List.set_cons_succ]
            refine wpAnyH_ready (rs := [2]) (by kernel_rfl) (by simp) (AllReadyH.cons (o := { dst := some 86, op := Op.call { callee := Callee.value (Operand.func 14), args := #[Operand.tmp 85], argTypes := #[40] }, type := 9, pos := "law.go:100", after := #[{ on := 1, ground := Ground.data }], guard := none }) rfl (fun K hK => ?_) AllReadyH.nil)
            go_simp
            go_at_call 14
            refine (HTX.out _).mono ?_
            rintro e w7 ⟨rfl, hb7⟩
            have H8 : Hid (Row w7 s 40 [.bool false, .int .u16 (cnn : Nat), .int .u8 cb.toNat] ∧ TwoLogs (fun k => k < w.heap.size ∨ k = s) w7 lp p kp q g D r D.reff ∧ Below w.heap.size w w7) := Lib.hid ⟨HS0.out.below hb7 HS0.out.lt, H7.out.1.below hb7, H7.out.2.trans (hb7.mono H7.out.2.size)⟩
            refine hK.out _ _ H8.out.1 (fun hHeld => ?_)
            clear hK K hb7
            try simp only [Act.put, List.setIfInBounds_toArray, List.set_cons_zero, List.set_cons_succ]
            refine wpAnyH_ready (rs := [3]) (by kernel_rfl) (by simp) (AllReadyH.cons (o := { dst := some 87, op := Op.call { callee := Callee.value (Operand.func 16), args := #[Operand.tmp 84, Operand.tmp 86], argTypes := #[30, 9] }, type := 25, pos := "law.go:100", after := #[{ on := 0, ground := Ground.data }, { on := 2, ground := Ground.data }, { on := 2, ground := Ground.chain }], guard := none }) rfl (fun K hK => ?_) AllReadyH.nil)
            go_simp
            go_at_call 16
            refine (HC1.out _ H8.out.2.1 H8.out.2.2).mono ?_
            rintro e w8 ⟨rfl, ht8, hk8⟩
            have H9 : Hid (Row w8 s 40 [.bool false, .int .u16 (cnn : Nat), .int .u8 cb.toNat] ∧ TwoLogs (fun k => k < w.heap.size ∨ k = s) w8 lp p kp q A.1.1 A.1.2 r D.reff ∧ Below w.heap.size w w8) := Lib.hid ⟨(hk8.block s H8.out.1.lt (.inr rfl)).trans H8.out.1, ht8, H8.out.2.2.trans (hk8.below H8.out.2.2.size (fun k h => .inl h))⟩
            refine hK.out _ _ H9.out.1 (fun hHeld => ?_)
            clear hK K ht8 hk8
            try simp only [Act.put, List.setIfInBounds_toArray, List.set_cons_zero, List.set_cons_succ]
            refine wpAnyH_ready (rs := [6]) (by kernel_rfl) (by simp) (AllReadyH.cons (o := { dst := some 90, op := Op.call { callee := Callee.value (Operand.func 14), args := #[Operand.tmp 89], argTypes := #[40] }, type := 9, pos := "law.go:100", after := #[{ on := 5, ground := Ground.data }, { on := 3, ground := Ground.chain }], guard := none }) rfl (fun K hK => ?_) AllReadyH.nil)
            go_simp
            go_at_call 14
            refine (HTX.out _).mono ?_
            rintro e w9 ⟨rfl, hb9⟩
            have H10 : Hid (Row w9 s 40 [.bool false, .int .u16 (cnn : Nat), .int .u8 cb.toNat] ∧ TwoLogs (fun k => k < w.heap.size ∨ k = s) w9 lp p kp q A.1.1 A.1.2 r D.reff ∧ Below w.heap.size w w9) := Lib.hid ⟨H9.out.1.below hb9 H9.out.1.lt, H9.out.2.1.below hb9, H9.out.2.2.trans (hb9.mono H9.out.2.2.size)⟩
            refine hK.out _ _ H10.out.1 (fun hHeld => ?_)
            clear hK K hb9
            try simp only [Act.put, List.setIfInBounds_toArray, List.set_cons_zero, List.set_cons_succ]
            refine wpAnyH_ready (rs := [7]) (by kernel_rfl) (by simp) (AllReadyH.cons (o := { dst := some 91, op := Op.call { callee := Callee.value (Operand.func 17), args := #[Operand.tmp 88, Operand.tmp 90], argTypes := #[34, 9] }, type := 3, pos := "law.go:100", after := #[{ on := 4, ground := Ground.data }, { on := 6, ground := Ground.data }, { on := 6, ground := Ground.chain }], guard := none }) rfl (fun K hK => ?_) AllReadyH.nil)
            go_simp
            go_at_call 17
            refine (HC2.out _ H10.out.2.1).mono ?_
            rintro e w10 ⟨rfl, ht10, hk10⟩
            have H11 : Hid (Row w10 s 40 [.bool false, .int .u16 (cnn : Nat), .int .u8 cb.toNat] ∧ TwoLogs (fun k => k < w.heap.size ∨ k = s) w10 lp p kp q A.1.1 A.1.2 B.1.1 B.1.2 ∧ Below w.heap.size w w10) := Lib.hid ⟨(hk10.block s H10.out.1.lt (.inr rfl)).trans H10.out.1, ht10, H10.out.2.2.trans (hk10.below H10.out.2.2.size (fun k h => .inl h))⟩
            refine hK.out _ _ H11.out.1 (fun hHeld => ?_)
            clear hK K ht10 hk10
            try simp only [Act.put, List.setIfInBounds_toArray, List.set_cons_zero, List.set_cons_succ]
            refine wpAnyH_ready (rs := [8]) (by kernel_rfl) (by simp) (AllReadyH.cons (o := { dst := some 19, op := Op.assign (Operand.tmp 87), type := 25, pos := "law.go:100", after := #[{ on := 3, ground := Ground.data }, { on := 7, ground := Ground.chain }, { on := 0, ground := Ground.phase }, { on := 1, ground := Ground.phase }, { on := 2, ground := Ground.phase }, { on := 3, ground := Ground.phase }, { on := 4, ground := Ground.textOnly Departure.lateStores }, { on := 5, ground := Ground.textOnly Departure.lateStores }, { on := 6, ground := Ground.textOnly Departure.lateStoresUnsure }, { on := 7, ground := Ground.textOnly Departure.lateStoresUnsure }], guard := none }) rfl (fun K hK => ?_) AllReadyH.nil)
            go_simp
            refine hK.out _ _ H11.out.1 (fun hHeld => ?_)
            clear hK K
            try simp only [Act.put, List.setIfInBounds_toArray, List.set_cons_zero, List.set_cons_succ]
            refine wpAnyH_ready (rs := [9]) (by kernel_rfl) (by simp) (AllReadyH.cons (o := { dst := some 20, op := Op.assign (Operand.tmp 91), type := 3, pos := "law.go:100", after := #[{ on := 7, ground := Ground.data }, { on := 8, ground := Ground.chain }, { on := 0, ground := Ground.phase }, { on := 1, ground := Ground.phase }, { on := 2, ground := Ground.phase }, { on := 3, ground := Ground.phase }, { on := 4, ground := Ground.phase }, { on := 5, ground := Ground.phase }, { on := 6, ground := Ground.phase }, { on := 7, ground := Ground.phase }, { on := 8, ground := Ground.phase }], guard := none }) rfl (fun K hK => ?_) AllReadyH.nil)
            go_simp
            refine hK.out _ _ H11.out.1 (fun hHeld => ?_)
            clear hK K
            try simp only [Act.put, List.setIfInBounds_toArray, List.set_cons_zero, List.set_cons_succ]
            refine wpAnyH_done (by kernel_rfl) ?_ _
            refine NoPanic.normal ?_
            clear H7 H8 H9 H10 HS0 HTX HC1 HC2
            rw [HBT.out.1]
            obtain ⟨tv, hr1, hr2, hr3, ⟨S1, hd1⟩, ⟨S2, hd2⟩⟩ : ∃ tv, Row w10 lp 83 (A.1.1.cells p) ∧ Row w10 kp 37 (B.1.1.cells q tv) ∧ w10.ownsRow 0 9 1 tv B.1.1.texts.length B.1.1.vals ∧ (∃ S, DiskIs S w10 p A.1.2) ∧ (∃ S, RefIs S w10 q B.1.2) := by
              obtain ⟨tv, ⟨S, _, _, hd, hr⟩, h1, h2, h3, _⟩ := H11.out.2.1
              exact ⟨tv, h1, h2, h3, ⟨S, hd⟩, ⟨_, hr⟩⟩
            obtain ⟨av, cv, rfl⟩ := own_slice hr3
            obtain ⟨_, hb2, hbo, hcs, hch, hnm⟩ := HBT.out
            have hsB : secs B.1.2 = secs A.1.2 := by rw [hb2]; rfl
            obtain ⟨sz, hsz⟩ : ∃ x, secs A.1.2 * 128 = x := ⟨_, rfl⟩
            have hszl : sz ≤ 300000 := by
              obtain ⟨gl0, hv0, hd0⟩ := hd2
              have h1 := hd0.good.most
              rw [← hsz, ← hsB]
              unfold secs
              omega
            obtain ⟨er, her⟩ : ∃ x, B.1.1.lost = x := ⟨_, rfl⟩
            obtain ⟨nt, hnt⟩ : ∃ x, B.1.1.texts.length = x := ⟨_, rfl⟩
            obtain ⟨ub, hub⟩ : ∃ x, B.1.1.bytes.length = x := ⟨_, rfl⟩
            obtain ⟨TB, hTB⟩ : ∃ x, tx B.1.1.bytes = x := ⟨_, rfl⟩
            have hTBs : TB.size = ub := by rw [← hTB, tx_size, hub]
            have hubs : ub ≤ sz := by rw [← hub, ← hsz]; exact hbo.room
            obtain ⟨lf, hlf⟩ : ∃ x, sz - ub = x := ⟨_, rfl⟩
            have hlfI : (sz : Int) - (ub : Int) = (lf : Int) := by omega
            have hszI : (sz : Int) ≤ 300000 := by omega
            have hubI : (ub : Int) ≤ (sz : Int) := by omega
            have HE1 : Hid (∀ W', Below w10.heap.size w10 W' → Calls Tryz.prog 18 #[.pointer (some ⟨lp, 0, none⟩)] W' fun e w' => e = .returned (.int .i64 er) ∧ W' = w') := Lib.hid fun W' h => by
              have h1 := Err_any (hr1.below h hr1.lt)
              rw [hbo.err, her] at h1
              exact h1
            have HE2 : Hid (∀ W', Below w10.heap.size w10 W' → Calls Tryz.prog 19 #[.pointer (some ⟨lp, 0, none⟩)] W' fun e w' => e = .returned (.int .i64 (nt : Nat)) ∧ W' = w') := Lib.hid fun W' h => by
              have h1 := Count_any (hr1.below h hr1.lt)
              rw [hbo.count, hnt] at h1
              exact h1
            have HE3 : Hid (∀ W', Below w10.heap.size w10 W' → Calls Tryz.prog 20 #[.pointer (some ⟨lp, 0, none⟩)] W' fun e w' => e = .returned (.int .i64 (lf : Nat)) ∧ Below W'.heap.size W' w') := Lib.hid fun W' h => by
              obtain ⟨gl0, gm0, hv0, Dm0, hd0⟩ := hd1.below h
              have h1 := Left_any (hr1.below h hr1.lt) hd0 (by rw [hbo.used]; exact hbo.room)
              rw [hbo.used, hub, hsz, hlf] at h1
              exact h1
            have HE4 : Hid (∀ W', Below w10.heap.size w10 W' → Calls Tryz.prog 21 #[.pointer (some ⟨kp, 0, none⟩)] W' fun e w' => e = .returned (.int .i64 (sz : Nat)) ∧ W' = w') := Lib.hid fun W' h => by
              have h1 := refRoom_any (hr2.below h hr2.lt) (hd2.below h)
              rw [hsB, hsz] at h1
              exact h1
            have HK : Hid (∀ W', Below w10.heap.size w10 W' → W'.cell? ⟨kp, 3, none⟩ = some (.slice av nt cv) ∧ W'.cell? ⟨kp, 4, none⟩ = some (.string TB) ∧ W'.cell? ⟨kp, 5, none⟩ = some (.int .i64 er)) := Lib.hid fun W' h => by
              have hr := hr2.below h hr2.lt
              have x3 := hr.cell 3
              have x4 := hr.cell 4
              have x5 := hr.cell 5
              simp only [RL.cells, List.getElem?_cons_zero, List.getElem?_cons_succ] at x3 x4 x5
              rw [hnt] at x3
              rw [hTB] at x4
              rw [her] at x5
              exact ⟨x3, x4, x5⟩
            have HFN : Hid (B.1.2 = A.1.2.reff ∧ Both A.1.1 A.1.2 B.1.1 ∧ A.1.2.steps ≤ 5000 * (j + 1) ∧ A.1.2.hangs.length ≤ 5000 * (j + 1) ∧ B.1.1.num ≤ j + 1) := Lib.hid ⟨hb2, hbo, by have := HR.out; omega, by have := HR.out; omega, by rw [← hbo.num]; have := HR.out.1.num; have := HR.out; omega⟩
            have HFW : Hid (B.1.1.texts.length ≤ j + 1) := Lib.hid (by
              have h1 := (show A.1.1.count ≤ g.count + 1 by rw [← HAE.out]; exact (add_few g D TL).1)
              rw [hbo.count, HR.out.1.count] at h1
              have := HR.out
              omega)
            clear hr1 hr2 hr3 hd1 hd2 hb2 hbo hcs hch hnm hsB hsz hszl her hnt hub hTB hubs hlf HBT
            obtain ⟨ev, hev⟩ : ∃ x, A.2 = x := ⟨_, rfl⟩
            rw [hev]
            clear hev
            go_wp2_with fail
            refine region_quiet_lit (fun W => Below w10.heap.size w10 W) (by kernel_rfl) (by kernel_rfl) ⟨rfl, rfl, rfl, Nat.le_refl _, fun _ _ => rfl⟩ ?_
            refine wpQ_yields (.int .i64 ev) (Or.inl ⟨by rfl, fun W' hS => ?yq141⟩) ?_
            case yq141 =>
              go_simp
            try simp only [Act.put, List.setIfInBounds_toArray, List.set_cons_zero, List.set_cons_succ]
            refine wpQ_yields (.int .i64 ev) (Or.inl ⟨by rfl, fun W' hS => ?yq142⟩) ?_
            case yq142 =>
              go_simp
            try simp only [Act.put, List.setIfInBounds_toArray, List.set_cons_zero, List.set_cons_succ]
            refine wpQ_yields (.bool false) (Or.inl ⟨by rfl, fun W' hS => ?yq143⟩) ?_
            case yq143 =>
              go_simp
            try simp only [Act.put, List.setIfInBounds_toArray, List.set_cons_zero, List.set_cons_succ]
            refine wpQ_yields (.bool false) (Or.inl ⟨by rfl, fun W' hS => ?yq144⟩) ?_
            case yq144 =>
              go_simp
            try simp only [Act.put, List.setIfInBounds_toArray, List.set_cons_zero, List.set_cons_succ]
            refine wpQ_yields (.pointer (some ⟨lp, 0, none⟩)) (Or.inl ⟨by rfl, fun W' hS => ?yq145⟩) ?_
            case yq145 =>
              go_simp
            try simp only [Act.put, List.setIfInBounds_toArray, List.set_cons_zero, List.set_cons_succ]
            refine wpQ_call (.int .i64 er) 18 #[.pointer (some ⟨lp, 0, none⟩)] (by rfl) (fun W' => ?yq146) (fun W' hS => ?yr146) ?_
            case yq146 =>
              go_simp
            case yr146 =>
              refine (HE1.out W' hS).mono ?_
              rintro e wy ⟨rfl, rfl⟩
              exact ⟨rfl, hS⟩
            try simp only [Act.put, List.setIfInBounds_toArray, List.set_cons_zero, List.set_cons_succ]
            refine wpQ_yields (.pointer (some ⟨kp, 0, none⟩)) (Or.inl ⟨by rfl, fun W' hS => ?yq147⟩) ?_
            case yq147 =>
              go_simp
            try simp only [Act.put, List.setIfInBounds_toArray, List.set_cons_zero, List.set_cons_succ]
            refine wpQ_yields (.pointer (some ⟨kp, 0, none⟩)) (Or.inl ⟨by rfl, fun W' hS => ?yq148⟩) ?_
            case yq148 =>
              go_simp
            try simp only [Act.put, List.setIfInBounds_toArray, List.set_cons_zero, List.set_cons_succ]
            refine wpQ_yields (.pointer (some ⟨kp, 5, none⟩)) (Or.inl ⟨by rfl, fun W' hS => ?yq149⟩) ?_
            case yq149 =>
              go_simp
            try simp only [Act.put, List.setIfInBounds_toArray, List.set_cons_zero, List.set_cons_succ]
            refine wpQ_yields (.int .i64 er) (Or.inl ⟨by rfl, fun W' hS => ?yq150⟩) ?_
            case yq150 =>
              have q0 := HK.out W' hS
              have q1 := q0.1
              have q2 := q0.2.1
              have q3 := q0.2.2
              go_simp
            try simp only [Act.put, List.setIfInBounds_toArray, List.set_cons_zero, List.set_cons_succ]
            refine wpQ_yields (.bool false) (Or.inl ⟨by rfl, fun W' hS => ?yq151⟩) ?_
            case yq151 =>
              go_simp
            try simp only [Act.put, List.setIfInBounds_toArray, List.set_cons_zero, List.set_cons_succ]
            refine wpQ_yields (.bool false) (Or.inl ⟨by rfl, fun W' hS => ?yq152⟩) ?_
            case yq152 =>
              go_simp
            try simp only [Act.put, List.setIfInBounds_toArray, List.set_cons_zero, List.set_cons_succ]
            refine wpQ_yields (.bool false) (Or.inl ⟨by rfl, fun W' hS => ?yq153⟩) ?_
            case yq153 =>
              go_simp
            try simp only [Act.put, List.setIfInBounds_toArray, List.set_cons_zero, List.set_cons_succ]
            refine wpQ_yields (.pointer (some ⟨lp, 0, none⟩)) (Or.inl ⟨by rfl, fun W' hS => ?yq154⟩) ?_
            case yq154 =>
              go_simp
            try simp only [Act.put, List.setIfInBounds_toArray, List.set_cons_zero, List.set_cons_succ]
            refine wpQ_call (.int .i64 (nt : Nat)) 19 #[.pointer (some ⟨lp, 0, none⟩)] (by rfl) (fun W' => ?yq155) (fun W' hS => ?yr155) ?_
            case yq155 =>
              go_simp
            case yr155 =>
              refine (HE2.out W' hS).mono ?_
              rintro e wy ⟨rfl, rfl⟩
              exact ⟨rfl, hS⟩
            try simp only [Act.put, List.setIfInBounds_toArray, List.set_cons_zero, List.set_cons_succ]
            refine wpQ_yields (.pointer (some ⟨kp, 0, none⟩)) (Or.inl ⟨by rfl, fun W' hS => ?yq156⟩) ?_
            case yq156 =>
              go_simp
            try simp only [Act.put, List.setIfInBounds_toArray, List.set_cons_zero, List.set_cons_succ]
            refine wpQ_yields (.pointer (some ⟨kp, 0, none⟩)) (Or.inl ⟨by rfl, fun W' hS => ?yq157⟩) ?_
            case yq157 =>
              go_simp
            try simp only [Act.put, List.setIfInBounds_toArray, List.set_cons_zero, List.set_cons_succ]
            refine wpQ_yields (.pointer (some ⟨kp, 3, none⟩)) (Or.inl ⟨by rfl, fun W' hS => ?yq158⟩) ?_
            case yq158 =>
              go_simp
            try simp only [Act.put, List.setIfInBounds_toArray, List.set_cons_zero, List.set_cons_succ]
            refine wpQ_yields (.slice av nt cv) (Or.inl ⟨by rfl, fun W' hS => ?yq159⟩) ?_
            case yq159 =>
              have q0 := HK.out W' hS
              have q1 := q0.1
              have q2 := q0.2.1
              have q3 := q0.2.2
              go_simp
            try simp only [Act.put, List.setIfInBounds_toArray, List.set_cons_zero, List.set_cons_succ]
            refine wpQ_yields (.int .i64 (nt : Nat)) (Or.inl ⟨by rfl, fun W' hS => ?yq160⟩) ?_
            case yq160 =>
              go_simp
            try simp only [Act.put, List.setIfInBounds_toArray, List.set_cons_zero, List.set_cons_succ]
            refine wpQ_yields (.bool false) (Or.inl ⟨by rfl, fun W' hS => ?yq161⟩) ?_
            case yq161 =>
              go_simp
            try simp only [Act.put, List.setIfInBounds_toArray, List.set_cons_zero, List.set_cons_succ]
            refine wpQ_yields (.bool false) (Or.inl ⟨by rfl, fun W' hS => ?yq162⟩) ?_
            case yq162 =>
              go_simp
            try simp only [Act.put, List.setIfInBounds_toArray, List.set_cons_zero, List.set_cons_succ]
            refine wpQ_yields (.bool false) (Or.inl ⟨by rfl, fun W' hS => ?yq163⟩) ?_
            case yq163 =>
              go_simp
            try simp only [Act.put, List.setIfInBounds_toArray, List.set_cons_zero, List.set_cons_succ]
            refine wpQ_yields (.pointer (some ⟨lp, 0, none⟩)) (Or.inl ⟨by rfl, fun W' hS => ?yq164⟩) ?_
            case yq164 =>
              go_simp
            try simp only [Act.put, List.setIfInBounds_toArray, List.set_cons_zero, List.set_cons_succ]
            refine wpQ_call (.int .i64 (lf : Nat)) 20 #[.pointer (some ⟨lp, 0, none⟩)] (by rfl) (fun W' => ?yq165) (fun W' hS => ?yr165) ?_
            case yq165 =>
              go_simp
            case yr165 =>
              refine (HE3.out W' hS).mono ?_
              rintro e wy ⟨rfl, hby⟩
              exact ⟨rfl, hS.trans (hby.mono hS.size)⟩
            try simp only [Act.put, List.setIfInBounds_toArray, List.set_cons_zero, List.set_cons_succ]
            refine wpQ_yields (.pointer (some ⟨kp, 0, none⟩)) (Or.inl ⟨by rfl, fun W' hS => ?yq166⟩) ?_
            case yq166 =>
              go_simp
            try simp only [Act.put, List.setIfInBounds_toArray, List.set_cons_zero, List.set_cons_succ]
            refine wpQ_call (.int .i64 (sz : Nat)) 21 #[.pointer (some ⟨kp, 0, none⟩)] (by rfl) (fun W' => ?yq167) (fun W' hS => ?yr167) ?_
            case yq167 =>
              go_simp
            case yr167 =>
              refine (HE4.out W' hS).mono ?_
              rintro e wy ⟨rfl, rfl⟩
              exact ⟨rfl, hS⟩
            try simp only [Act.put, List.setIfInBounds_toArray, List.set_cons_zero, List.set_cons_succ]
            refine wpQ_yields (.pointer (some ⟨kp, 0, none⟩)) (Or.inl ⟨by rfl, fun W' hS => ?yq168⟩) ?_
            case yq168 =>
              go_simp
            try simp only [Act.put, List.setIfInBounds_toArray, List.set_cons_zero, List.set_cons_succ]
            refine wpQ_yields (.pointer (some ⟨kp, 0, none⟩)) (Or.inl ⟨by rfl, fun W' hS => ?yq169⟩) ?_
            case yq169 =>
              go_simp
            try simp only [Act.put, List.setIfInBounds_toArray, List.set_cons_zero, List.set_cons_succ]
            refine wpQ_yields (.pointer (some ⟨kp, 4, none⟩)) (Or.inl ⟨by rfl, fun W' hS => ?yq170⟩) ?_
            case yq170 =>
              go_simp
            try simp only [Act.put, List.setIfInBounds_toArray, List.set_cons_zero, List.set_cons_succ]
            refine wpQ_yields (.string TB) (Or.inl ⟨by rfl, fun W' hS => ?yq171⟩) ?_
            case yq171 =>
              have q0 := HK.out W' hS
              have q1 := q0.1
              have q2 := q0.2.1
              have q3 := q0.2.2
              go_simp
            try simp only [Act.put, List.setIfInBounds_toArray, List.set_cons_zero, List.set_cons_succ]
            refine wpQ_yields (.int .i64 (ub : Nat)) (Or.inl ⟨by rfl, fun W' hS => ?yq172⟩) ?_
            case yq172 =>
              go_simp
            try simp only [Act.put, List.setIfInBounds_toArray, List.set_cons_zero, List.set_cons_succ]
            refine wpQ_yields (.int .i64 (lf : Nat)) (Or.inl ⟨by rfl, fun W' hS => ?yq173⟩) ?_
            case yq173 =>
              go_simp
              try (rw [IntKind.wrap_i64] <;> omega)
            try simp only [Act.put, List.setIfInBounds_toArray, List.set_cons_zero, List.set_cons_succ]
            refine wpQ_yields (.bool false) (Or.inl ⟨by rfl, fun W' hS => ?yq174⟩) ?_
            case yq174 =>
              go_simp
            try simp only [Act.put, List.setIfInBounds_toArray, List.set_cons_zero, List.set_cons_succ]
            refine wpQ_yields (.bool false) (Or.inl ⟨by rfl, fun W' hS => ?yq175⟩) ?_
            case yq175 =>
              go_simp
            try simp only [Act.put, List.setIfInBounds_toArray, List.set_cons_zero, List.set_cons_succ]
            refine wpQuiet_nil ?_
            intro wf hwf
            go_wp2_with fail
            go_roundw
            case rel =>
              refine ⟨j + 1, by omega, by go_num, Lib.hid ⟨A.1.1, A.1.2, B.1.1, B.1.2, H11.out.2.1.grow hwf (fun k hk => .inl (.inl hk)), HFN.out.1, HFN.out.2.1, HFN.out.2.2.2.2, HFW.out, HFN.out.2.2.1, HFN.out.2.2.2.1, H11.out.2.2.trans (hwf.mono H11.out.2.2.size)⟩⟩
            case measure => simp [intOf]; omega
          · go_wp2_with fail
            rw [HSE.out]
            generalize (wr.alloc (.cells #[.bool true, .int .u16 (cnn : Nat), .int .u8 cb.toNat] 40)) = w6 at H6 ⊢
            obtain ⟨TL, hTL⟩ : ∃ TL, AL.text ⟨true, cnn, cb⟩ = TL := ⟨_, rfl⟩
            have hTLl : TL.length ≤ 17000 := by rw [← hTL]; unfold AL.text; rw [List.length_replicate]; have := Nat.mod_lt cnn (show 0 < 17000 by omega); show cnn % 17000 ≤ 17000; omega
            have HTX : Hid (∀ W, Calls Tryz.prog 14 #[.agg #[.bool true, .int .u16 (cnn : Nat), .int .u8 cb.toNat]] W fun e w' => e = .returned (.string (tx TL)) ∧ Below W.heap.size W w') := Lib.hid fun W => by
              have h := actText_any ⟨true, cnn, cb⟩ HCN.out.1 W
              rw [hTL] at h
              exact h
            obtain ⟨A, hA⟩ : ∃ x, g.renewT D TL = x := ⟨_, rfl⟩
            obtain ⟨B, hB⟩ : ∃ x, r.renew D.reff TL = x := ⟨_, rfl⟩
            have hDok : D.ok := by
              obtain ⟨tv, ⟨S, _, _, hd, _⟩, _⟩ := H6.out.2.1
              obtain ⟨_, _, _, _, hd⟩ := hd
              exact hd.good
            have hbth := both_renew HR.out.1 hDok TL (by omega)
            rw [hA, hB] at hbth
            have HBT := Lib.hid hbth
            have HAE := Lib.hid hA
            have hj16 : j ≤ 16 := by have := HCN.out.2; omega
            have HC1 : Hid (∀ W, TwoLogs (fun k => k < w.heap.size ∨ k = s) W lp p kp q g D r D.reff → Below w.heap.size w W → Calls Tryz.prog 13 #[.pointer (some ⟨lp, 0, none⟩), .string (tx TL)] W fun e w' => e = .returned (.int .i64 A.2) ∧ TwoLogs (fun k => k < w.heap.size ∨ k = s) w' lp p kp q A.1.1 A.1.2 r D.reff ∧ Keeps (fun k => k < w.heap.size ∨ k = s) W w') := Lib.hid fun W h hb => by
              have h1 := TwoLogs.renew1 h HR.out.1 (HG.out.below hb) (.inl HST.out) (by have := HR.out; omega) (by have := HR.out; omega) (by have := HR.out; omega) TL (by omega)
              rw [hA] at h1
              exact h1
            have HC2 : Hid (∀ W, TwoLogs (fun k => k < w.heap.size ∨ k = s) W lp p kp q A.1.1 A.1.2 r D.reff → Calls Tryz.prog 15 #[.pointer (some ⟨kp, 0, none⟩), .string (tx TL)] W fun e w' => e = .returned (.int .i64 B.2) ∧ TwoLogs (fun k => k < w.heap.size ∨ k = s) w' lp p kp q A.1.1 A.1.2 B.1.1 B.1.2 ∧ Keeps (fun k => k < w.heap.size ∨ k = s) W w') := Lib.hid fun W h => by
              have hR := HR.out
              have e1 : D.reff.steps = D.steps := rfl
              have e2 : D.reff.hangs = D.hangs := rfl
              have h1 := TwoLogs.renew2 h (HR.out.1.hle) (by omega) (by rw [e1]; omega) (by rw [e2]; omega) TL (by omega)
              rw [hB] at h1
              exact h1
            clear hTL hTLl hA hB hDok hbth hj16
            have HS0 : Hid (Row w6.drew s 40 [.bool true, .int .u16 (cnn : Nat), .int .u8 cb.toNat]) := Lib.hid H6.out.1.drew
            have H7 : Hid (TwoLogs (fun k => k < w.heap.size ∨ k = s) w6.drew lp p kp q g D r D.reff ∧ Below w.heap.size w w6.drew) := Lib.hid ⟨H6.out.2.1.below (below_drewK (Below.refl _ _) 1), below_drewK H6.out.2.2 1⟩
            clear H6
            refine wp_region_noPanic ?_
            refine wp_region_held_drew (S := fun W => Row W s 40 [.bool true, .int .u16 (cnn : Nat), .int .u8 cb.toNat]) (by kernel_rfl) HS0.out (fun hHeld => ?_)
            refine wpAnyH_take (i := 0) (oi := { dst := some 76, op := Op.move (Operand.tmp 13), type := 30, pos := "law.go:98", after := #[], guard := none }) (v := ?vvr_0) rfl (by kernel_rfl) (by kernel_rfl) (by kernel_rfl) (fun _ _ _ h => h) (Or.inl ⟨by rfl, ?yyr_0⟩) hHeld ?_
            case vvr_0 => exact .pointer (some ⟨lp, 0, none⟩)
            case yyr_0 =>
              intro W hS
              go_simp
            try simp only [Act.put, List.setIfInBounds_toArray, List.set_cons_zero, List.set_cons_succ]
            refine' wpAnyH_take (i := 1) (oi := { dst := some 77, op := Op.load 40 (Operand.tmp 18), type := 40, pos := "law.go:98", after := #[], guard := none }) (v := .agg #[.bool true, .int .u16 (cnn : Nat), .int .u8 cb.toNat]) rfl (by kernel_rfl) (by kernel_rfl) (by kernel_rfl) (fun _ _ _ h => h) (yieldsIf_load_mid (by rfl) _ _ rfl s 0 rfl [.bool true, .int .u16 (cnn : Nat), .int .u8 cb.toNat] _ (fun W h => (fun k v hk => by rw [Nat.zero_add, h.cell]; exact hk)) Tryz.underlying40 rfl (by kernel_rfl)) hHeld ?_
            try simp only [Act.put, List.setIfInBounds_toArray, List.set_cons_zero, List.set_cons_succ]
            refine wpAnyH_take (i := 4) (oi := { dst := some 80, op := Op.move (Operand.tmp 16), type := 34, pos := "law.go:98", after := #[], guard := none }) (v := ?vvr_4) rfl (by kernel_rfl) (by kernel_rfl) (by kernel_rfl) (fun _ _ _ h => h) (Or.inl ⟨by rfl, ?yyr_4⟩) hHeld ?_
            case vvr_4 => exact .pointer (some ⟨kp, 0, none⟩)
            case yyr_4 =>
              intro W hS
              go_simp
            try simp only [Act.put, List.setIfInBounds_toArray, List.set_cons_zero, List.set_cons_succ]
            refine' wpAnyH_take (i := 5) (oi := { dst := some 81, op := Op.load 40 (Operand.tmp 18), type := 40, pos := "law.go:98", after := #[], guard := none }) (v := .agg #[.bool true, .int .u16 (cnn : Nat), .int .u8 cb.toNat]) rfl (by kernel_rfl) (by kernel_rfl) (by kernel_rfl) (fun _ _ _ h => h) (yieldsIf_load_mid (by rfl) _ _ rfl s 0 rfl [.bool true, .int .u16 (cnn : Nat), .int .u8 cb.toNat] _ (fun W h => (fun k v hk => by rw [Nat.zero_add, h.cell]; exact hk)) Tryz.underlying40 rfl (by kernel_rfl)) hHeld ?_
            try simp only [Act.put, List.setIfInBounds_toArray, List.set_cons_zero, List.set_cons_succ]
            refine wpAnyH_ready (rs := [2]) (by kernel_rfl) (by simp) (AllReadyH.cons (o := { dst := some 78, op := Op.call { callee := Callee.value (Operand.func 14), args := #[Operand.tmp 77], argTypes := #[40] }, type := 9, pos := "law.go:98", after := #[{ on := 1, ground := Ground.data }], guard := none }) rfl (fun K hK => ?_) AllReadyH.nil)
            go_simp
            go_at_call 14
            refine (HTX.out _).mono ?_
            rintro e w7 ⟨rfl, hb7⟩
            have H8 : Hid (Row w7 s 40 [.bool true, .int .u16 (cnn : Nat), .int .u8 cb.toNat] ∧ TwoLogs (fun k => k < w.heap.size ∨ k = s) w7 lp p kp q g D r D.reff ∧ Below w.heap.size w w7) := Lib.hid ⟨HS0.out.below hb7 HS0.out.lt, H7.out.1.below hb7, H7.out.2.trans (hb7.mono H7.out.2.size)⟩
            refine hK.out _ _ H8.out.1 (fun hHeld => ?_)
            clear hK K hb7
            try simp only [Act.put, List.setIfInBounds_toArray, List.set_cons_zero, List.set_cons_succ]
            refine wpAnyH_ready (rs := [3]) (by kernel_rfl) (by simp) (AllReadyH.cons (o := { dst := some 79, op := Op.call { callee := Callee.value (Operand.func 13), args := #[Operand.tmp 76, Operand.tmp 78], argTypes := #[30, 9] }, type := 25, pos := "law.go:98", after := #[{ on := 0, ground := Ground.data }, { on := 2, ground := Ground.data }, { on := 2, ground := Ground.chain }], guard := none }) rfl (fun K hK => ?_) AllReadyH.nil)
            go_simp
            go_at_call 13
            refine (HC1.out _ H8.out.2.1 H8.out.2.2).mono ?_
            rintro e w8 ⟨rfl, ht8, hk8⟩
            have H9 : Hid (Row w8 s 40 [.bool true, .int .u16 (cnn : Nat), .int .u8 cb.toNat] ∧ TwoLogs (fun k => k < w.heap.size ∨ k = s) w8 lp p kp q A.1.1 A.1.2 r D.reff ∧ Below w.heap.size w w8) := Lib.hid ⟨(hk8.block s H8.out.1.lt (.inr rfl)).trans H8.out.1, ht8, H8.out.2.2.trans (hk8.below H8.out.2.2.size (fun k h => .inl h))⟩
            refine hK.out _ _ H9.out.1 (fun hHeld => ?_)
            clear hK K ht8 hk8
            try simp only [Act.put, List.setIfInBounds_toArray, List.set_cons_zero, List.set_cons_succ]
            refine wpAnyH_ready (rs := [6]) (by kernel_rfl) (by simp) (AllReadyH.cons (o := { dst := some 82, op := Op.call { callee := Callee.value (Operand.func 14), args := #[Operand.tmp 81], argTypes := #[40] }, type := 9, pos := "law.go:98", after := #[{ on := 5, ground := Ground.data }, { on := 3, ground := Ground.chain }], guard := none }) rfl (fun K hK => ?_) AllReadyH.nil)
            go_simp
            go_at_call 14
            refine (HTX.out _).mono ?_
            rintro e w9 ⟨rfl, hb9⟩
            have H10 : Hid (Row w9 s 40 [.bool true, .int .u16 (cnn : Nat), .int .u8 cb.toNat] ∧ TwoLogs (fun k => k < w.heap.size ∨ k = s) w9 lp p kp q A.1.1 A.1.2 r D.reff ∧ Below w.heap.size w w9) := Lib.hid ⟨H9.out.1.below hb9 H9.out.1.lt, H9.out.2.1.below hb9, H9.out.2.2.trans (hb9.mono H9.out.2.2.size)⟩
            refine hK.out _ _ H10.out.1 (fun hHeld => ?_)
            clear hK K hb9
            try simp only [Act.put, List.setIfInBounds_toArray, List.set_cons_zero, List.set_cons_succ]
            refine wpAnyH_ready (rs := [7]) (by kernel_rfl) (by simp) (AllReadyH.cons (o := { dst := some 83, op := Op.call { callee := Callee.value (Operand.func 15), args := #[Operand.tmp 80, Operand.tmp 82], argTypes := #[34, 9] }, type := 3, pos := "law.go:98", after := #[{ on := 4, ground := Ground.data }, { on := 6, ground := Ground.data }, { on := 6, ground := Ground.chain }], guard := none }) rfl (fun K hK => ?_) AllReadyH.nil)
            go_simp
            go_at_call 15
            refine (HC2.out _ H10.out.2.1).mono ?_
            rintro e w10 ⟨rfl, ht10, hk10⟩
            have H11 : Hid (Row w10 s 40 [.bool true, .int .u16 (cnn : Nat), .int .u8 cb.toNat] ∧ TwoLogs (fun k => k < w.heap.size ∨ k = s) w10 lp p kp q A.1.1 A.1.2 B.1.1 B.1.2 ∧ Below w.heap.size w w10) := Lib.hid ⟨(hk10.block s H10.out.1.lt (.inr rfl)).trans H10.out.1, ht10, H10.out.2.2.trans (hk10.below H10.out.2.2.size (fun k h => .inl h))⟩
            refine hK.out _ _ H11.out.1 (fun hHeld => ?_)
            clear hK K ht10 hk10
            try simp only [Act.put, List.setIfInBounds_toArray, List.set_cons_zero, List.set_cons_succ]
            refine wpAnyH_ready (rs := [8]) (by kernel_rfl) (by simp) (AllReadyH.cons (o := { dst := some 19, op := Op.assign (Operand.tmp 79), type := 25, pos := "law.go:98", after := #[{ on := 3, ground := Ground.data }, { on := 7, ground := Ground.chain }, { on := 0, ground := Ground.phase }, { on := 1, ground := Ground.phase }, { on := 2, ground := Ground.phase }, { on := 3, ground := Ground.phase }, { on := 4, ground := Ground.textOnly Departure.lateStores }, { on := 5, ground := Ground.textOnly Departure.lateStores }, { on := 6, ground := Ground.textOnly Departure.lateStoresUnsure }, { on := 7, ground := Ground.textOnly Departure.lateStoresUnsure }], guard := none }) rfl (fun K hK => ?_) AllReadyH.nil)
            go_simp
            refine hK.out _ _ H11.out.1 (fun hHeld => ?_)
            clear hK K
            try simp only [Act.put, List.setIfInBounds_toArray, List.set_cons_zero, List.set_cons_succ]
            refine wpAnyH_ready (rs := [9]) (by kernel_rfl) (by simp) (AllReadyH.cons (o := { dst := some 20, op := Op.assign (Operand.tmp 83), type := 3, pos := "law.go:98", after := #[{ on := 7, ground := Ground.data }, { on := 8, ground := Ground.chain }, { on := 0, ground := Ground.phase }, { on := 1, ground := Ground.phase }, { on := 2, ground := Ground.phase }, { on := 3, ground := Ground.phase }, { on := 4, ground := Ground.phase }, { on := 5, ground := Ground.phase }, { on := 6, ground := Ground.phase }, { on := 7, ground := Ground.phase }, { on := 8, ground := Ground.phase }], guard := none }) rfl (fun K hK => ?_) AllReadyH.nil)
            go_simp
            refine hK.out _ _ H11.out.1 (fun hHeld => ?_)
            clear hK K
            try simp only [Act.put, List.setIfInBounds_toArray, List.set_cons_zero, List.set_cons_succ]
            refine wpAnyH_done (by kernel_rfl) ?_ _
            refine NoPanic.normal ?_
            clear H7 H8 H9 H10 HS0 HTX HC1 HC2
            rw [HBT.out.1]
            obtain ⟨tv, hr1, hr2, hr3, ⟨S1, hd1⟩, ⟨S2, hd2⟩⟩ : ∃ tv, Row w10 lp 83 (A.1.1.cells p) ∧ Row w10 kp 37 (B.1.1.cells q tv) ∧ w10.ownsRow 0 9 1 tv B.1.1.texts.length B.1.1.vals ∧ (∃ S, DiskIs S w10 p A.1.2) ∧ (∃ S, RefIs S w10 q B.1.2) := by
              obtain ⟨tv, ⟨S, _, _, hd, hr⟩, h1, h2, h3, _⟩ := H11.out.2.1
              exact ⟨tv, h1, h2, h3, ⟨S, hd⟩, ⟨_, hr⟩⟩
            obtain ⟨av, cv, rfl⟩ := own_slice hr3
            obtain ⟨_, hb2, hbo, hcs, hch, hnm⟩ := HBT.out
            have hsB : secs B.1.2 = secs A.1.2 := by rw [hb2]; rfl
            obtain ⟨sz, hsz⟩ : ∃ x, secs A.1.2 * 128 = x := ⟨_, rfl⟩
            have hszl : sz ≤ 300000 := by
              obtain ⟨gl0, hv0, hd0⟩ := hd2
              have h1 := hd0.good.most
              rw [← hsz, ← hsB]
              unfold secs
              omega
            obtain ⟨er, her⟩ : ∃ x, B.1.1.lost = x := ⟨_, rfl⟩
            obtain ⟨nt, hnt⟩ : ∃ x, B.1.1.texts.length = x := ⟨_, rfl⟩
            obtain ⟨ub, hub⟩ : ∃ x, B.1.1.bytes.length = x := ⟨_, rfl⟩
            obtain ⟨TB, hTB⟩ : ∃ x, tx B.1.1.bytes = x := ⟨_, rfl⟩
            have hTBs : TB.size = ub := by rw [← hTB, tx_size, hub]
            have hubs : ub ≤ sz := by rw [← hub, ← hsz]; exact hbo.room
            obtain ⟨lf, hlf⟩ : ∃ x, sz - ub = x := ⟨_, rfl⟩
            have hlfI : (sz : Int) - (ub : Int) = (lf : Int) := by omega
            have hszI : (sz : Int) ≤ 300000 := by omega
            have hubI : (ub : Int) ≤ (sz : Int) := by omega
            have HE1 : Hid (∀ W', Below w10.heap.size w10 W' → Calls Tryz.prog 18 #[.pointer (some ⟨lp, 0, none⟩)] W' fun e w' => e = .returned (.int .i64 er) ∧ W' = w') := Lib.hid fun W' h => by
              have h1 := Err_any (hr1.below h hr1.lt)
              rw [hbo.err, her] at h1
              exact h1
            have HE2 : Hid (∀ W', Below w10.heap.size w10 W' → Calls Tryz.prog 19 #[.pointer (some ⟨lp, 0, none⟩)] W' fun e w' => e = .returned (.int .i64 (nt : Nat)) ∧ W' = w') := Lib.hid fun W' h => by
              have h1 := Count_any (hr1.below h hr1.lt)
              rw [hbo.count, hnt] at h1
              exact h1
            have HE3 : Hid (∀ W', Below w10.heap.size w10 W' → Calls Tryz.prog 20 #[.pointer (some ⟨lp, 0, none⟩)] W' fun e w' => e = .returned (.int .i64 (lf : Nat)) ∧ Below W'.heap.size W' w') := Lib.hid fun W' h => by
              obtain ⟨gl0, gm0, hv0, Dm0, hd0⟩ := hd1.below h
              have h1 := Left_any (hr1.below h hr1.lt) hd0 (by rw [hbo.used]; exact hbo.room)
              rw [hbo.used, hub, hsz, hlf] at h1
              exact h1
            have HE4 : Hid (∀ W', Below w10.heap.size w10 W' → Calls Tryz.prog 21 #[.pointer (some ⟨kp, 0, none⟩)] W' fun e w' => e = .returned (.int .i64 (sz : Nat)) ∧ W' = w') := Lib.hid fun W' h => by
              have h1 := refRoom_any (hr2.below h hr2.lt) (hd2.below h)
              rw [hsB, hsz] at h1
              exact h1
            have HK : Hid (∀ W', Below w10.heap.size w10 W' → W'.cell? ⟨kp, 3, none⟩ = some (.slice av nt cv) ∧ W'.cell? ⟨kp, 4, none⟩ = some (.string TB) ∧ W'.cell? ⟨kp, 5, none⟩ = some (.int .i64 er)) := Lib.hid fun W' h => by
              have hr := hr2.below h hr2.lt
              have x3 := hr.cell 3
              have x4 := hr.cell 4
              have x5 := hr.cell 5
              simp only [RL.cells, List.getElem?_cons_zero, List.getElem?_cons_succ] at x3 x4 x5
              rw [hnt] at x3
              rw [hTB] at x4
              rw [her] at x5
              exact ⟨x3, x4, x5⟩
            have HFN : Hid (B.1.2 = A.1.2.reff ∧ Both A.1.1 A.1.2 B.1.1 ∧ A.1.2.steps ≤ 5000 * (j + 1) ∧ A.1.2.hangs.length ≤ 5000 * (j + 1) ∧ B.1.1.num ≤ j + 1) := Lib.hid ⟨hb2, hbo, by have := HR.out; omega, by have := HR.out; omega, by rw [← hbo.num]; have := HR.out.1.num; have := HR.out; omega⟩
            have HFW : Hid (B.1.1.texts.length ≤ j + 1) := Lib.hid (by
              have h1 := (show A.1.1.count ≤ g.count + 1 by rw [← HAE.out]; exact (add_few g D TL).2)
              rw [hbo.count, HR.out.1.count] at h1
              have := HR.out
              omega)
            clear hr1 hr2 hr3 hd1 hd2 hb2 hbo hcs hch hnm hsB hsz hszl her hnt hub hTB hubs hlf HBT
            obtain ⟨ev, hev⟩ : ∃ x, A.2 = x := ⟨_, rfl⟩
            rw [hev]
            clear hev
            go_wp2_with fail
            refine region_quiet_lit (fun W => Below w10.heap.size w10 W) (by kernel_rfl) (by kernel_rfl) ⟨rfl, rfl, rfl, Nat.le_refl _, fun _ _ => rfl⟩ ?_
            refine wpQ_yields (.int .i64 ev) (Or.inl ⟨by rfl, fun W' hS => ?yq176⟩) ?_
            case yq176 =>
              go_simp
            try simp only [Act.put, List.setIfInBounds_toArray, List.set_cons_zero, List.set_cons_succ]
            refine wpQ_yields (.int .i64 ev) (Or.inl ⟨by rfl, fun W' hS => ?yq177⟩) ?_
            case yq177 =>
              go_simp
            try simp only [Act.put, List.setIfInBounds_toArray, List.set_cons_zero, List.set_cons_succ]
            refine wpQ_yields (.bool false) (Or.inl ⟨by rfl, fun W' hS => ?yq178⟩) ?_
            case yq178 =>
              go_simp
            try simp only [Act.put, List.setIfInBounds_toArray, List.set_cons_zero, List.set_cons_succ]
            refine wpQ_yields (.bool false) (Or.inl ⟨by rfl, fun W' hS => ?yq179⟩) ?_
            case yq179 =>
              go_simp
            try simp only [Act.put, List.setIfInBounds_toArray, List.set_cons_zero, List.set_cons_succ]
            refine wpQ_yields (.pointer (some ⟨lp, 0, none⟩)) (Or.inl ⟨by rfl, fun W' hS => ?yq180⟩) ?_
            case yq180 =>
              go_simp
            try simp only [Act.put, List.setIfInBounds_toArray, List.set_cons_zero, List.set_cons_succ]
            refine wpQ_call (.int .i64 er) 18 #[.pointer (some ⟨lp, 0, none⟩)] (by rfl) (fun W' => ?yq181) (fun W' hS => ?yr181) ?_
            case yq181 =>
              go_simp
            case yr181 =>
              refine (HE1.out W' hS).mono ?_
              rintro e wy ⟨rfl, rfl⟩
              exact ⟨rfl, hS⟩
            try simp only [Act.put, List.setIfInBounds_toArray, List.set_cons_zero, List.set_cons_succ]
            refine wpQ_yields (.pointer (some ⟨kp, 0, none⟩)) (Or.inl ⟨by rfl, fun W' hS => ?yq182⟩) ?_
            case yq182 =>
              go_simp
            try simp only [Act.put, List.setIfInBounds_toArray, List.set_cons_zero, List.set_cons_succ]
            refine wpQ_yields (.pointer (some ⟨kp, 0, none⟩)) (Or.inl ⟨by rfl, fun W' hS => ?yq183⟩) ?_
            case yq183 =>
              go_simp
            try simp only [Act.put, List.setIfInBounds_toArray, List.set_cons_zero, List.set_cons_succ]
            refine wpQ_yields (.pointer (some ⟨kp, 5, none⟩)) (Or.inl ⟨by rfl, fun W' hS => ?yq184⟩) ?_
            case yq184 =>
              go_simp
            try simp only [Act.put, List.setIfInBounds_toArray, List.set_cons_zero, List.set_cons_succ]
            refine wpQ_yields (.int .i64 er) (Or.inl ⟨by rfl, fun W' hS => ?yq185⟩) ?_
            case yq185 =>
              have q0 := HK.out W' hS
              have q1 := q0.1
              have q2 := q0.2.1
              have q3 := q0.2.2
              go_simp
            try simp only [Act.put, List.setIfInBounds_toArray, List.set_cons_zero, List.set_cons_succ]
            refine wpQ_yields (.bool false) (Or.inl ⟨by rfl, fun W' hS => ?yq186⟩) ?_
            case yq186 =>
              go_simp
            try simp only [Act.put, List.setIfInBounds_toArray, List.set_cons_zero, List.set_cons_succ]
            refine wpQ_yields (.bool false) (Or.inl ⟨by rfl, fun W' hS => ?yq187⟩) ?_
            case yq187 =>
              go_simp
            try simp only [Act.put, List.setIfInBounds_toArray, List.set_cons_zero, List.set_cons_succ]
            refine wpQ_yields (.bool false) (Or.inl ⟨by rfl, fun W' hS => ?yq188⟩) ?_
            case yq188 =>
              go_simp
            try simp only [Act.put, List.setIfInBounds_toArray, List.set_cons_zero, List.set_cons_succ]
            refine wpQ_yields (.pointer (some ⟨lp, 0, none⟩)) (Or.inl ⟨by rfl, fun W' hS => ?yq189⟩) ?_
            case yq189 =>
              go_simp
            try simp only [Act.put, List.setIfInBounds_toArray, List.set_cons_zero, List.set_cons_succ]
            refine wpQ_call (.int .i64 (nt : Nat)) 19 #[.pointer (some ⟨lp, 0, none⟩)] (by rfl) (fun W' => ?yq190) (fun W' hS => ?yr190) ?_
            case yq190 =>
              go_simp
            case yr190 =>
              refine (HE2.out W' hS).mono ?_
              rintro e wy ⟨rfl, rfl⟩
              exact ⟨rfl, hS⟩
            try simp only [Act.put, List.setIfInBounds_toArray, List.set_cons_zero, List.set_cons_succ]
            refine wpQ_yields (.pointer (some ⟨kp, 0, none⟩)) (Or.inl ⟨by rfl, fun W' hS => ?yq191⟩) ?_
            case yq191 =>
              go_simp
            try simp only [Act.put, List.setIfInBounds_toArray, List.set_cons_zero, List.set_cons_succ]
            refine wpQ_yields (.pointer (some ⟨kp, 0, none⟩)) (Or.inl ⟨by rfl, fun W' hS => ?yq192⟩) ?_
            case yq192 =>
              go_simp
            try simp only [Act.put, List.setIfInBounds_toArray, List.set_cons_zero, List.set_cons_succ]
            refine wpQ_yields (.pointer (some ⟨kp, 3, none⟩)) (Or.inl ⟨by rfl, fun W' hS => ?yq193⟩) ?_
            case yq193 =>
              go_simp
            try simp only [Act.put, List.setIfInBounds_toArray, List.set_cons_zero, List.set_cons_succ]
            refine wpQ_yields (.slice av nt cv) (Or.inl ⟨by rfl, fun W' hS => ?yq194⟩) ?_
            case yq194 =>
              have q0 := HK.out W' hS
              have q1 := q0.1
              have q2 := q0.2.1
              have q3 := q0.2.2
              go_simp
            try simp only [Act.put, List.setIfInBounds_toArray, List.set_cons_zero, List.set_cons_succ]
            refine wpQ_yields (.int .i64 (nt : Nat)) (Or.inl ⟨by rfl, fun W' hS => ?yq195⟩) ?_
            case yq195 =>
              go_simp
            try simp only [Act.put, List.setIfInBounds_toArray, List.set_cons_zero, List.set_cons_succ]
            refine wpQ_yields (.bool false) (Or.inl ⟨by rfl, fun W' hS => ?yq196⟩) ?_
            case yq196 =>
              go_simp
            try simp only [Act.put, List.setIfInBounds_toArray, List.set_cons_zero, List.set_cons_succ]
            refine wpQ_yields (.bool false) (Or.inl ⟨by rfl, fun W' hS => ?yq197⟩) ?_
            case yq197 =>
              go_simp
            try simp only [Act.put, List.setIfInBounds_toArray, List.set_cons_zero, List.set_cons_succ]
            refine wpQ_yields (.bool false) (Or.inl ⟨by rfl, fun W' hS => ?yq198⟩) ?_
            case yq198 =>
              go_simp
            try simp only [Act.put, List.setIfInBounds_toArray, List.set_cons_zero, List.set_cons_succ]
            refine wpQ_yields (.pointer (some ⟨lp, 0, none⟩)) (Or.inl ⟨by rfl, fun W' hS => ?yq199⟩) ?_
            case yq199 =>
              go_simp
            try simp only [Act.put, List.setIfInBounds_toArray, List.set_cons_zero, List.set_cons_succ]
            refine wpQ_call (.int .i64 (lf : Nat)) 20 #[.pointer (some ⟨lp, 0, none⟩)] (by rfl) (fun W' => ?yq200) (fun W' hS => ?yr200) ?_
            case yq200 =>
              go_simp
            case yr200 =>
              refine (HE3.out W' hS).mono ?_
              rintro e wy ⟨rfl, hby⟩
              exact ⟨rfl, hS.trans (hby.mono hS.size)⟩
            try simp only [Act.put, List.setIfInBounds_toArray, List.set_cons_zero, List.set_cons_succ]
            refine wpQ_yields (.pointer (some ⟨kp, 0, none⟩)) (Or.inl ⟨by rfl, fun W' hS => ?yq201⟩) ?_
            case yq201 =>
              go_simp
            try simp only [Act.put, List.setIfInBounds_toArray, List.set_cons_zero, List.set_cons_succ]
            refine wpQ_call (.int .i64 (sz : Nat)) 21 #[.pointer (some ⟨kp, 0, none⟩)] (by rfl) (fun W' => ?yq202) (fun W' hS => ?yr202) ?_
            case yq202 =>
              go_simp
            case yr202 =>
              refine (HE4.out W' hS).mono ?_
              rintro e wy ⟨rfl, rfl⟩
              exact ⟨rfl, hS⟩
            try simp only [Act.put, List.setIfInBounds_toArray, List.set_cons_zero, List.set_cons_succ]
            refine wpQ_yields (.pointer (some ⟨kp, 0, none⟩)) (Or.inl ⟨by rfl, fun W' hS => ?yq203⟩) ?_
            case yq203 =>
              go_simp
            try simp only [Act.put, List.setIfInBounds_toArray, List.set_cons_zero, List.set_cons_succ]
            refine wpQ_yields (.pointer (some ⟨kp, 0, none⟩)) (Or.inl ⟨by rfl, fun W' hS => ?yq204⟩) ?_
            case yq204 =>
              go_simp
            try simp only [Act.put, List.setIfInBounds_toArray, List.set_cons_zero, List.set_cons_succ]
            refine wpQ_yields (.pointer (some ⟨kp, 4, none⟩)) (Or.inl ⟨by rfl, fun W' hS => ?yq205⟩) ?_
            case yq205 =>
              go_simp
            try simp only [Act.put, List.setIfInBounds_toArray, List.set_cons_zero, List.set_cons_succ]
            refine wpQ_yields (.string TB) (Or.inl ⟨by rfl, fun W' hS => ?yq206⟩) ?_
            case yq206 =>
              have q0 := HK.out W' hS
              have q1 := q0.1
              have q2 := q0.2.1
              have q3 := q0.2.2
              go_simp
            try simp only [Act.put, List.setIfInBounds_toArray, List.set_cons_zero, List.set_cons_succ]
            refine wpQ_yields (.int .i64 (ub : Nat)) (Or.inl ⟨by rfl, fun W' hS => ?yq207⟩) ?_
            case yq207 =>
              go_simp
            try simp only [Act.put, List.setIfInBounds_toArray, List.set_cons_zero, List.set_cons_succ]
            refine wpQ_yields (.int .i64 (lf : Nat)) (Or.inl ⟨by rfl, fun W' hS => ?yq208⟩) ?_
            case yq208 =>
              go_simp
              try (rw [IntKind.wrap_i64] <;> omega)
            try simp only [Act.put, List.setIfInBounds_toArray, List.set_cons_zero, List.set_cons_succ]
            refine wpQ_yields (.bool false) (Or.inl ⟨by rfl, fun W' hS => ?yq209⟩) ?_
            case yq209 =>
              go_simp
            try simp only [Act.put, List.setIfInBounds_toArray, List.set_cons_zero, List.set_cons_succ]
            refine wpQ_yields (.bool false) (Or.inl ⟨by rfl, fun W' hS => ?yq210⟩) ?_
            case yq210 =>
              go_simp
            try simp only [Act.put, List.setIfInBounds_toArray, List.set_cons_zero, List.set_cons_succ]
            refine wpQuiet_nil ?_
            intro wf hwf
            go_wp2_with fail
            go_roundw
            case rel =>
              refine ⟨j + 1, by omega, by go_num, Lib.hid ⟨A.1.1, A.1.2, B.1.1, B.1.2, H11.out.2.1.grow hwf (fun k hk => .inl (.inl hk)), HFN.out.1, HFN.out.2.1, HFN.out.2.2.2.2, HFW.out, HFN.out.2.2.1, HFN.out.2.2.2.1, H11.out.2.2.trans (hwf.mono H11.out.2.2.size)⟩⟩
            case measure => simp [intOf]; omega
    · obtain rfl : j = n := by omega
      obtain ⟨g, D, r, E, hA⟩ := HW.out
      have hE := hA.same
      subst hE
      obtain ⟨tv, hP, hr1, hr2, hr3, _⟩ := hA.two
      obtain ⟨av, cv, rfl⟩ := own_slice hr3
      have HSM := Lib.hid (Same_any hP (by have := hA.steps; omega) (by have := hA.hangs; omega))
      have HRO := Lib.hid (And.intro hP (And.intro hr1 (And.intro hr2 hr3)))
      have HAA := Lib.hid hA
      clear HW hA hP hr1 hr2 hr3 hltj
      go_wp2_with fail
      refine HSM.out.mono ?_
      rintro e w8 ⟨rfl, hb8⟩
      have H8 := Lib.hid hb8
      have x5 := (HRO.out.2.2.1.below hb8 HRO.out.2.2.1.lt).cell 5
      simp only [RL.cells, List.getElem?_cons_zero, List.getElem?_cons_succ] at x5
      obtain ⟨lo, hlo⟩ : ∃ x, r.lost = x := ⟨_, rfl⟩
      rw [hlo] at x5
      clear hb8 HSM
      by_cases hl0 : lo = 0
      · subst hl0
        have hbo := both_open HAA.out.both hlo (by have := HAA.out.num; omega) (by have := HAA.out.few; omega)
        have HBO := Lib.hid hbo
        clear hbo
        obtain ⟨S1, hS1, hTS1, hd1, hq1⟩ := HRO.out.1
        have HOP := Lib.hid (Open_any (HG.out.below (HAA.out.bel.trans (H8.out.mono HAA.out.bel.size))) (hd1.below H8.out) HBO.out.2.2.2.1 HBO.out.2.2.2.2)
        rw [HBO.out.2.2.1] at HOP
        have HDD := Lib.hid (And.intro hd1 hq1)
        clear hS1 hTS1 hd1 hq1
        go_wp2_with fail
        refine HOP.out.mono ?_
        rintro e w9 ⟨⟨lp2, v9, rfl, hlp2, hr9, ho9⟩, hB9⟩
        have ho9b : w9.ownsRow w8.heap.size 9 1 v9 r.texts.length r.vals := by
          have e1 : (LG.opentexts D).length = r.texts.length := by rw [HBO.out.2.1, endsF_length]
          have e2 : ((LG.opentexts D).map fun x => Value.string (tx x.2)) = r.vals := by
            rw [HBO.out.2.1]
            unfold RL.vals
            rw [← endsF_map 0 r.texts, List.map_map, endsF_map]
            rfl
          rw [e1, e2] at ho9
          exact ho9
        obtain ⟨a9, c9, rfl⟩ := own_slice ho9b
        have H9 := Lib.hid (And.intro hr9 (And.intro ho9b hB9))
        clear hlp2 hr9 ho9 ho9b hB9 HOP
        go_wp2_with fail
        have hb9 := H9.out.2.2
        have hb89 : Below wr.heap.size wr w9 := H8.out.trans (hb9.mono H8.out.size)
        obtain ⟨hd1, hq1⟩ := HDD.out
        obtain ⟨_, hr1, hr2, hr3⟩ := HRO.out
        obtain ⟨nt, hnt⟩ : ∃ x, r.texts.length = x := ⟨_, rfl⟩
        obtain ⟨lf, hlf⟩ : ∃ x, secs D * 128 - r.bytes.length = x := ⟨_, rfl⟩
        obtain ⟨st, hst⟩ : ∃ x, D.steps = x := ⟨_, rfl⟩
        have hbt := HAA.out.both
        have hvl : r.vals = (r.texts.map tx).map Value.string := by unfold RL.vals; rw [List.map_map]; rfl
        have hS1 := H9.out.2.1
        rw [hvl] at hS1
        have hS2 := own_kept (w' := w9) hr3 (fun k hk => hb89.block k (own_blk_lt hr3 hk))
        rw [hvl] at hS2
        have hs1 := Strs.own hS1 (by rw [List.length_map])
        have hs2 := Strs.own hS2 (by rw [List.length_map])
        rw [hnt] at hs1 hs2
        have hfew : nt ≤ 1000 := by rw [← hnt]; have := HAA.out.few; omega
        have HQ1 : Hid (∀ W', Below w9.heap.size w9 W' → Calls Tryz.prog 23 #[.slice a9 nt c9, .slice av nt cv] W' fun e w' => e = .returned (.bool true) ∧ Below W'.heap.size W' w') := Lib.hid fun W' h => by
          refine (Equal_any _ _ _ _ W' (hs1.below (Nat.le_refl _) h) (hs2.below (Nat.le_refl _) h) (by rw [List.length_map]; omega) (by rw [List.length_map]; omega)).mono ?_
          rintro e w' ⟨rfl, k, rfl⟩
          exact ⟨by simp, below_drewK (Below.refl _ _) k⟩
        have HQ2 : Hid (∀ W', Below w9.heap.size w9 W' → Calls Tryz.prog 19 #[.pointer (some ⟨lp2, 0, none⟩)] W' fun e w' => e = .returned (.int .i64 (nt : Nat)) ∧ W' = w') := Lib.hid fun W' h => by
          have h1 := Count_any (H9.out.1.below h H9.out.1.lt)
          rw [show ((⟨r.num, r.half, r.texts.length, r.bytes.length, 0⟩ : LG).count) = nt from hnt] at h1
          exact h1
        have HQ3 : Hid (∀ W', Below w9.heap.size w9 W' → Calls Tryz.prog 20 #[.pointer (some ⟨lp2, 0, none⟩)] W' fun e w' => e = .returned (.int .i64 (lf : Nat)) ∧ Below W'.heap.size W' w') := Lib.hid fun W' h => by
          obtain ⟨gl0, gm0, hv0, Dm0, hd0⟩ := (hd1.below hb89).below h
          have h1 := Left_any (H9.out.1.below h H9.out.1.lt) hd0 hbt.room
          rw [show secs D * 128 - (⟨r.num, r.half, r.texts.length, r.bytes.length, 0⟩ : LG).used = lf from hlf] at h1
          exact h1
        have HQ4 : Hid (∀ W', Below w9.heap.size w9 W' → Calls Tryz.prog 20 #[.pointer (some ⟨lp, 0, none⟩)] W' fun e w' => e = .returned (.int .i64 (lf : Nat)) ∧ Below W'.heap.size W' w') := Lib.hid fun W' h => by
          obtain ⟨gl0, gm0, hv0, Dm0, hd0⟩ := (hd1.below hb89).below h
          have h1 := Left_any ((hr1.below hb89 hr1.lt).below h (hr1.below hb89 hr1.lt).lt) hd0 (by rw [hbt.used]; exact hbt.room)
          rw [hbt.used, hlf] at h1
          exact h1
        have HQ5 : Hid (∀ W', Below w9.heap.size w9 W' → Calls Tryz.prog 24 #[.pointer (some ⟨p, 0, none⟩)] W' fun e w' => e = .returned (.int .i64 (st : Nat)) ∧ W' = w') := Lib.hid fun W' h => by
          obtain ⟨gl0, gm0, hv0, Dm0, hd0⟩ := (hd1.below hb89).below h
          have h1 := Steps_any hd0
          rw [hst] at h1
          exact h1
        have HK : Hid (∀ W', Below w9.heap.size w9 W' → W'.cell? ⟨kp, 3, none⟩ = some (.slice av nt cv) ∧ W'.cell? ⟨q, 2, none⟩ = some (.int .i64 (st : Nat))) := Lib.hid fun W' h => by
          have hr := (hr2.below hb89 hr2.lt).below h (hr2.below hb89 hr2.lt).lt
          have x3 := hr.cell 3
          simp only [RL.cells, List.getElem?_cons_zero, List.getElem?_cons_succ] at x3
          rw [hnt] at x3
          obtain ⟨gl0, hv0, hd0⟩ := (hq1.below hb89).below h
          have x2 := hd0.row.cell 2
          simp only [List.getElem?_cons_zero, List.getElem?_cons_succ] at x2
          rw [show D.reff.steps = st from hst] at x2
          exact ⟨x3, x2⟩
        have HFB : Hid (Below w.heap.size w w9) := Lib.hid (HAA.out.bel.trans (hb89.mono HAA.out.bel.size))
        rw [hnt]
        clear hb9 hb89 hd1 hq1 hr1 hr2 hr3 hlf hst hbt hvl hS1 hS2 hs1 hs2 hfew hnt
        refine region_quiet_lit (fun W => Below w9.heap.size w9 W) (by kernel_rfl) (by kernel_rfl) ⟨rfl, rfl, rfl, Nat.le_refl _, fun _ _ => rfl⟩ ?_
        refine wpQ_yields (.int .i64 0) (Or.inl ⟨by rfl, fun W' hS => ?yq501⟩) ?_
        case yq501 =>
          go_simp
        try simp only [Act.put, List.setIfInBounds_toArray, List.set_cons_zero, List.set_cons_succ]
        refine wpQ_yields (.bool true) (Or.inl ⟨by rfl, fun W' hS => ?yq502⟩) ?_
        case yq502 =>
          go_simp
        try simp only [Act.put, List.setIfInBounds_toArray, List.set_cons_zero, List.set_cons_succ]
        refine wpQ_yields (.bool true) (Or.inl ⟨by rfl, fun W' hS => ?yq503⟩) ?_
        case yq503 =>
          go_simp
        try simp only [Act.put, List.setIfInBounds_toArray, List.set_cons_zero, List.set_cons_succ]
        refine wpQ_yields (.slice a9 nt c9) (Or.inl ⟨by rfl, fun W' hS => ?yq504⟩) ?_
        case yq504 =>
          go_simp
        try simp only [Act.put, List.setIfInBounds_toArray, List.set_cons_zero, List.set_cons_succ]
        refine wpQ_yields (.pointer (some ⟨kp, 0, none⟩)) (Or.inl ⟨by rfl, fun W' hS => ?yq505⟩) ?_
        case yq505 =>
          go_simp
        try simp only [Act.put, List.setIfInBounds_toArray, List.set_cons_zero, List.set_cons_succ]
        refine wpQ_yields (.pointer (some ⟨kp, 0, none⟩)) (Or.inl ⟨by rfl, fun W' hS => ?yq506⟩) ?_
        case yq506 =>
          go_simp
        try simp only [Act.put, List.setIfInBounds_toArray, List.set_cons_zero, List.set_cons_succ]
        refine wpQ_yields (.pointer (some ⟨kp, 3, none⟩)) (Or.inl ⟨by rfl, fun W' hS => ?yq507⟩) ?_
        case yq507 =>
          go_simp
        try simp only [Act.put, List.setIfInBounds_toArray, List.set_cons_zero, List.set_cons_succ]
        refine wpQ_yields (.slice av nt cv) (Or.inl ⟨by rfl, fun W' hS => ?yq508⟩) ?_
        case yq508 =>
          have q0 := HK.out W' hS
          have q1 := q0.1
          have q2 := q0.2
          go_simp
        try simp only [Act.put, List.setIfInBounds_toArray, List.set_cons_zero, List.set_cons_succ]
        refine wpQ_call (.bool true) 23 #[.slice a9 nt c9, .slice av nt cv] (by rfl) (fun W' => ?yq509) (fun W' hS => ?yr509) ?_
        case yq509 =>
          go_simp
        case yr509 =>
          refine (HQ1.out W' hS).mono ?_
          rintro e wy ⟨rfl, hby⟩
          exact ⟨rfl, hS.trans (hby.mono hS.size)⟩
        try simp only [Act.put, List.setIfInBounds_toArray, List.set_cons_zero, List.set_cons_succ]
        refine wpQ_yields (.bool true) (Or.inl ⟨by rfl, fun W' hS => ?yq510⟩) ?_
        case yq510 =>
          go_simp
        try simp only [Act.put, List.setIfInBounds_toArray, List.set_cons_zero, List.set_cons_succ]
        refine wpQ_yields (.bool true) (Or.inl ⟨by rfl, fun W' hS => ?yq511⟩) ?_
        case yq511 =>
          go_simp
        try simp only [Act.put, List.setIfInBounds_toArray, List.set_cons_zero, List.set_cons_succ]
        refine wpQ_yields (.pointer (some ⟨lp2, 0, none⟩)) (Or.inl ⟨by rfl, fun W' hS => ?yq512⟩) ?_
        case yq512 =>
          go_simp
        try simp only [Act.put, List.setIfInBounds_toArray, List.set_cons_zero, List.set_cons_succ]
        refine wpQ_call (.int .i64 (nt : Nat)) 19 #[.pointer (some ⟨lp2, 0, none⟩)] (by rfl) (fun W' => ?yq513) (fun W' hS => ?yr513) ?_
        case yq513 =>
          go_simp
        case yr513 =>
          refine (HQ2.out W' hS).mono ?_
          rintro e wy ⟨rfl, rfl⟩
          exact ⟨rfl, hS⟩
        try simp only [Act.put, List.setIfInBounds_toArray, List.set_cons_zero, List.set_cons_succ]
        refine wpQ_yields (.slice a9 nt c9) (Or.inl ⟨by rfl, fun W' hS => ?yq514⟩) ?_
        case yq514 =>
          go_simp
        try simp only [Act.put, List.setIfInBounds_toArray, List.set_cons_zero, List.set_cons_succ]
        refine wpQ_yields (.int .i64 (nt : Nat)) (Or.inl ⟨by rfl, fun W' hS => ?yq515⟩) ?_
        case yq515 =>
          go_simp
        try simp only [Act.put, List.setIfInBounds_toArray, List.set_cons_zero, List.set_cons_succ]
        refine wpQ_yields (.bool true) (Or.inl ⟨by rfl, fun W' hS => ?yq516⟩) ?_
        case yq516 =>
          go_simp
        try simp only [Act.put, List.setIfInBounds_toArray, List.set_cons_zero, List.set_cons_succ]
        refine wpQ_yields (.bool true) (Or.inl ⟨by rfl, fun W' hS => ?yq517⟩) ?_
        case yq517 =>
          go_simp
        try simp only [Act.put, List.setIfInBounds_toArray, List.set_cons_zero, List.set_cons_succ]
        refine wpQ_yields (.bool true) (Or.inl ⟨by rfl, fun W' hS => ?yq518⟩) ?_
        case yq518 =>
          go_simp
        try simp only [Act.put, List.setIfInBounds_toArray, List.set_cons_zero, List.set_cons_succ]
        refine wpQ_yields (.pointer (some ⟨lp2, 0, none⟩)) (Or.inl ⟨by rfl, fun W' hS => ?yq519⟩) ?_
        case yq519 =>
          go_simp
        try simp only [Act.put, List.setIfInBounds_toArray, List.set_cons_zero, List.set_cons_succ]
        refine wpQ_call (.int .i64 (lf : Nat)) 20 #[.pointer (some ⟨lp2, 0, none⟩)] (by rfl) (fun W' => ?yq520) (fun W' hS => ?yr520) ?_
        case yq520 =>
          go_simp
        case yr520 =>
          refine (HQ3.out W' hS).mono ?_
          rintro e wy ⟨rfl, hby⟩
          exact ⟨rfl, hS.trans (hby.mono hS.size)⟩
        try simp only [Act.put, List.setIfInBounds_toArray, List.set_cons_zero, List.set_cons_succ]
        refine wpQ_yields (.pointer (some ⟨lp, 0, none⟩)) (Or.inl ⟨by rfl, fun W' hS => ?yq521⟩) ?_
        case yq521 =>
          go_simp
        try simp only [Act.put, List.setIfInBounds_toArray, List.set_cons_zero, List.set_cons_succ]
        refine wpQ_call (.int .i64 (lf : Nat)) 20 #[.pointer (some ⟨lp, 0, none⟩)] (by rfl) (fun W' => ?yq522) (fun W' hS => ?yr522) ?_
        case yq522 =>
          go_simp
        case yr522 =>
          refine (HQ4.out W' hS).mono ?_
          rintro e wy ⟨rfl, hby⟩
          exact ⟨rfl, hS.trans (hby.mono hS.size)⟩
        try simp only [Act.put, List.setIfInBounds_toArray, List.set_cons_zero, List.set_cons_succ]
        refine wpQ_yields (.bool true) (Or.inl ⟨by rfl, fun W' hS => ?yq523⟩) ?_
        case yq523 =>
          go_simp
        try simp only [Act.put, List.setIfInBounds_toArray, List.set_cons_zero, List.set_cons_succ]
        refine wpQ_yields (.bool true) (Or.inl ⟨by rfl, fun W' hS => ?yq524⟩) ?_
        case yq524 =>
          go_simp
        try simp only [Act.put, List.setIfInBounds_toArray, List.set_cons_zero, List.set_cons_succ]
        refine wpQ_yields (.bool true) (Or.inl ⟨by rfl, fun W' hS => ?yq525⟩) ?_
        case yq525 =>
          go_simp
        try simp only [Act.put, List.setIfInBounds_toArray, List.set_cons_zero, List.set_cons_succ]
        refine wpQ_yields (.pointer (some ⟨p, 0, none⟩)) (Or.inl ⟨by rfl, fun W' hS => ?yq526⟩) ?_
        case yq526 =>
          go_simp
        try simp only [Act.put, List.setIfInBounds_toArray, List.set_cons_zero, List.set_cons_succ]
        refine wpQ_call (.int .i64 (st : Nat)) 24 #[.pointer (some ⟨p, 0, none⟩)] (by rfl) (fun W' => ?yq527) (fun W' hS => ?yr527) ?_
        case yq527 =>
          go_simp
        case yr527 =>
          refine (HQ5.out W' hS).mono ?_
          rintro e wy ⟨rfl, rfl⟩
          exact ⟨rfl, hS⟩
        try simp only [Act.put, List.setIfInBounds_toArray, List.set_cons_zero, List.set_cons_succ]
        refine wpQ_yields (.pointer (some ⟨q, 0, none⟩)) (Or.inl ⟨by rfl, fun W' hS => ?yq528⟩) ?_
        case yq528 =>
          go_simp
        try simp only [Act.put, List.setIfInBounds_toArray, List.set_cons_zero, List.set_cons_succ]
        refine wpQ_yields (.pointer (some ⟨q, 0, none⟩)) (Or.inl ⟨by rfl, fun W' hS => ?yq529⟩) ?_
        case yq529 =>
          go_simp
        try simp only [Act.put, List.setIfInBounds_toArray, List.set_cons_zero, List.set_cons_succ]
        refine wpQ_yields (.pointer (some ⟨q, 2, none⟩)) (Or.inl ⟨by rfl, fun W' hS => ?yq530⟩) ?_
        case yq530 =>
          go_simp
        try simp only [Act.put, List.setIfInBounds_toArray, List.set_cons_zero, List.set_cons_succ]
        refine wpQ_yields (.int .i64 (st : Nat)) (Or.inl ⟨by rfl, fun W' hS => ?yq531⟩) ?_
        case yq531 =>
          have q0 := HK.out W' hS
          have q1 := q0.1
          have q2 := q0.2
          go_simp
        try simp only [Act.put, List.setIfInBounds_toArray, List.set_cons_zero, List.set_cons_succ]
        refine wpQ_yields (.bool true) (Or.inl ⟨by rfl, fun W' hS => ?yq532⟩) ?_
        case yq532 =>
          go_simp
        try simp only [Act.put, List.setIfInBounds_toArray, List.set_cons_zero, List.set_cons_succ]
        refine wpQ_yields (.bool true) (Or.inl ⟨by rfl, fun W' hS => ?yq533⟩) ?_
        case yq533 =>
          go_simp
        try simp only [Act.put, List.setIfInBounds_toArray, List.set_cons_zero, List.set_cons_succ]
        refine wpQ_yields (.bool true) (Or.inl ⟨by rfl, fun W' hS => ?yq534⟩) ?_
        case yq534 =>
          go_simp
        try simp only [Act.put, List.setIfInBounds_toArray, List.set_cons_zero, List.set_cons_succ]
        refine wpQuiet_nil ?_
        intro wf hwf
        go_wp2_with fail
        go_ret
        exact ⟨rfl, HFB.out.trans (hwf.mono HFB.out.size)⟩
      · have hlb : ((lo : Int) != 0) = true := by simpa using hl0
        clear hl0
        go_wp2_with fail
        go_ret
        exact ⟨rfl, HAA.out.bel.trans (H8.out.mono HAA.out.bel.size)⟩
end Go.Proofs.YtiaaeniopjpfpaaGreatDoor

namespace Go.Proofs.YtiaaeniopjpfpaaGreatDoor
open Go.ChangeShapes Go.WideShapes Go.RowKit Go.Deep
set_option linter.unusedVariables false

instance : Inhabited AL := ⟨⟨false, 0, 0⟩⟩
set_option maxRecDepth 20000 in
theorem als_open {H : Type} {enc : TypeId × Value → H} {W : World} {a0 : Option Addr} {len cap fuel : Nat} {x : DataW H × List MemPlace}
    (hf : DataW.trod enc Tryz.prog W 0 (fun _ => true) true fuel 22 [.slice a0 len cap] = some x) : ∃ l, ALs W (.slice a0 len cap) l ∧ l.length ≤ 9223372036854775807 := by
  have c3 : Tryz.prog.cellsOf 40 = 3 := by kernel_rfl
  have ci : Tryz.prog.cellsOf 38 = 1 := by kernel_rfl
  have cu : Tryz.prog.cellsOf 5 = 1 := by kernel_rfl
  have cb : Tryz.prog.cellsOf 4 = 1 := by kernel_rfl
  rcases open_slice Tryz.underlying22 hf with ⟨hcs, hx⟩ | ⟨a, len', cap', m, n, D, Pl, hcs, _, hl, hm, hz, hx, hcell⟩
  · simp at hcs
    obtain ⟨rfl, rfl, rfl⟩ := hcs
    exact ⟨[], ⟨none, 0, 0, 0, rfl, fun h => absurd h (by simp), fun j c h => absurd h (by simp)⟩, by simp⟩
  · simp at hcs
    obtain ⟨rfl, rfl, rfl⟩ := hcs
    simp only [if_true] at hz
    obtain ⟨b, off, spot⟩ := a
    have each : ∀ i, i < len → ∃ q : AL, q.n < 65536 ∧ W.cell? ((⟨b, off, spot⟩ : Addr).add (i * 3)) = some (.bool q.anew) ∧ W.cell? ((⟨b, off, spot⟩ : Addr).add (i * 3 + 1)) = some (.int .u16 (q.n : Nat)) ∧ W.cell? ((⟨b, off, spot⟩ : Addr).add (i * 3 + 2)) = some (.int .u8 q.b.toNat) := by
      intro i hi
      obtain ⟨cs', h1, h2⟩ := hcell i (by omega)
      rw [c3] at h1
      obtain ⟨_, hlen, hc⟩ := World.cells?_some h1
      obtain ⟨y0, y1, y2, k, _, _, t0, t1, t2⟩ := trod_struct3 Tryz.underlying40 h2
      match cs', hlen with
      | [v0, v1, v2], _ =>
        simp [ci, cb, cu] at t0 t1 t2
        obtain ⟨n0, e0, _⟩ := DataW.trod_bool Tryz.underlying4 t0
        obtain ⟨n1, e1, _, w1⟩ := DataW.trod_int Tryz.underlying38 t1
        obtain ⟨n2, e2, _, w2⟩ := DataW.trod_int Tryz.underlying5 t2
        have g0 := hc 0 (by omega)
        have g1 := hc 1 (by omega)
        have g2 := hc 2 (by omega)
        rw [add_add] at g0 g1 g2
        simp at e0 e1 e2 g0 g1 g2
        have r1 : 0 ≤ n1 ∧ n1 ≤ 65535 := by simpa [Lit.wf, IntKind.min, IntKind.max, IntKind.signed, IntKind.bits] using w1
        have r2 : 0 ≤ n2 ∧ n2 ≤ 255 := by simpa [Lit.wf, IntKind.min, IntKind.max, IntKind.signed, IntKind.bits] using w2
        have e3 : ((UInt8.ofNat n2.toNat).toNat : Int) = n2 := by rw [UInt8.toNat_ofNat']; omega
        have e4 : ((n1.toNat : Nat) : Int) = n1 := by omega
        exact ⟨⟨n0, n1.toNat, UInt8.ofNat n2.toNat⟩, by show n1.toNat < 65536; omega, by rw [g0, e0], by rw [g1, e1]; show some (Value.int IntKind.u16 n1) = some (Value.int IntKind.u16 ((n1.toNat : Nat) : Int)); rw [e4], by rw [g2, e2]; show some (Value.int IntKind.u8 n2) = some (Value.int IntKind.u8 ((UInt8.ofNat n2.toNat).toNat : Int)); rw [e3]⟩
    obtain ⟨q, hq⟩ := choose_lt each
    have hg : ∀ j, j < len → ((List.range len).map q)[j]? = some (q j) := fun j hj => by
      rw [List.getElem?_map, List.getElem?_range hj]; rfl
    have hlen : ((List.range len).map q).length = len := by simp
    have hspot : 0 < len → spot = none := fun h0 => by simpa [Addr.add] using World.cell?_spot (hq 0 h0).2.1
    refine ⟨(List.range len).map q, ⟨some ⟨b, off, spot⟩, cap, b, off, by rw [hlen], fun h0 => ?_, fun j c hj => ?_⟩, ?_⟩
    · rw [hlen] at h0
      obtain rfl := hspot h0
      have h := (hq 0 h0).2.1
      refine ⟨rfl, Classical.byContradiction fun hn => ?_⟩
      rw [show ((⟨b, off, none⟩ : Addr).add (0 * 3)) = ⟨b, off, none⟩ from rfl] at h
      simp [World.cell?, Array.getElem?_eq_none (Nat.le_of_not_lt hn)] at h
    · have hjl : j < len := by have := (List.getElem?_eq_some_iff.1 hj).1; rw [hlen] at this; exact this
      obtain rfl := hspot (by omega)
      rw [hg j hjl] at hj
      cases hj
      obtain ⟨h0, h1, h2, h3⟩ := hq j hjl
      rw [add_plain] at h1 h2 h3
      refine ⟨h0, fun k v hk => ?_⟩
      match k with
      | 0 => cases hk; exact h1
      | 1 => cases hk; exact h2
      | 2 => cases hk; exact h3
      | k + 3 => simp [AL.cells] at hk
    · rw [hlen]
      unfold maxLen at hm; omega
end Go.Proofs.YtiaaeniopjpfpaaGreatDoor

namespace Go.Proofs.YtiaaeniopjpfpaaGreatDoor.logPlays
open Go.ChangeShapes Go.WideShapes Go.ChangeAt Go.RowKit
open Go.ChangeMaps (open_string shut_string)
set_option linter.unusedVariables false

theorem own : ownKnob Tryz.prog.godebug = none := by kernel_rfl
theorem laidOut : laidOutB Tryz.prog = true := by kernel_rfl

set_option maxRecDepth 100000 in
theorem lifted (os : Os) (started : os.Started) (H : Type) (enc : TypeId × Value → H) :
    ReturnsInHanded {} Tryz.checked os 3 .any (fun w args => (Rows.logPlaysSpec.pre enc Tryz.prog Tryz.f3 Rows.logPlaysRow.domain false w args ∧ laidMetH Tryz.prog Rows.logPlaysRow.laid w) ∧ sizedMet enc Tryz.prog Tryz.f3 (OpenSpec.ofChange Rows.logPlaysSpec) false w args) (Rows.logPlaysSpec.post enc Tryz.prog Tryz.f3 false true false false) := by
  refine returnsInHanded_of_change_and (C := Tryz.checked) (X := fun w _ => laidMetH Tryz.prog Rows.logPlaysRow.laid w) (fun _ _ _ hh h => h.of_heap hh) own started (by kernel_rfl) Tryz.func3
    (ChangeSpec.witness_shaped (enc := enc) (C := Tryz.checked) (os := os) (X := fun w _ => laidMetH Tryz.prog Rows.logPlaysRow.laid w) false (World.laidAll Tryz.prog os Rows.logPlaysRow.laid) #[.int .u8 0, .slice none 0 0, .int .u8 0, .bool false] 8 (World.laidAll_os _ _ _) (World.shaped_of_ZipB (by kernel_rfl) (by kernel_rfl)) (by kernel_rfl) (by kernel_rfl) (by kernel_rfl) (by rw [MakeChecks.laidMetH_plain _ _ _ (by kernel_rfl)]; exact laidMet_laidAll _ (by kernel_rfl) (by kernel_rfl))) ?_
  intro W base args ds gs before hval0 hW hcnd hsz0 hX1 hX2
  have hsz : (DataW.weightsEach Tryz.prog (Tryz.f3.params.toList ++ Rows.logPlaysSpec.plain.varTypes Tryz.prog) (ds ++ gs)).all (· ≤ reachBytes) = true := hsz0
  have hval : ∀ (j : Nat) t v, Tryz.f3.params[j]? = some t → args[j]? = some v → Value.okWide Tryz.prog W .any base t v := hval0
  have hW' := hW
  obtain ⟨p, q, hA0, hV, rfl, hfz, hnd⟩ := hW
  have hA : DataW.TrodAll enc Tryz.prog W 0 (fun _ => true) true Tryz.f3.params.toList args.toList ds p := hA0
  rw [Tryz.params3] at hA hval hsz
  obtain ⟨v0, vs0, d0, ds0, p0, q0, hargs, rfl, rfl, h0, r0⟩ := trodAll_cons hA
  obtain ⟨v1, vs1, d1, ds1, p1, q1, rfl, rfl, rfl, h1, r1⟩ := trodAll_cons r0
  obtain ⟨v2, vs2, d2, ds2, p2, q2, rfl, rfl, rfl, h2, r2⟩ := trodAll_cons r1
  obtain ⟨v3, vs3, d3, ds3, p3, q3, rfl, rfl, rfl, h3, r3⟩ := trodAll_cons r2
  obtain ⟨rfl, rfl, rfl⟩ := trodAll_nil r3
  obtain rfl : args = #[v0, v1, v2, v3] := by cases args; simp_all
  obtain ⟨rfl, rfl⟩ := trodVars_none hV
  obtain ⟨a0, rfl, rfl, rfl, w0⟩ := open_int Tryz.underlying5 (hval 0 5 v0 rfl rfl) h0
  obtain ⟨x1, len1, cap1, rfl⟩ := okWide_slice Tryz.underlying22 (hval 1 22 v1 rfl rfl)
  have k1 := h1
  have lt1 : ∀ x ∈ p1, x.block < W.heap.size := by obtain ⟨m, hm⟩ := k1; exact DataW.trod_lt m _ _ _ hm
  obtain ⟨l1, w1, n1⟩ : ∃ l, ALs W (.slice x1 len1 cap1) l ∧ l.length ≤ 9223372036854775807 := by
    obtain ⟨fuel, hf⟩ := h1
    exact als_open hf
  obtain ⟨a2, rfl, rfl, rfl, w2⟩ := open_int Tryz.underlying5 (hval 2 5 v2 rfl rfl) h2
  obtain ⟨a3, rfl, rfl, rfl⟩ := open_bool Tryz.underlying4 (hval 3 4 v3 rfl rfl) h3
  clear hA0 hval0 hsz hsz0
  simp only [List.append_nil] at hW'
  refine (LogPlays_walk a0 (.slice x1 len1 cap1) l1 a2 a3 W w0 w2 w1 n1 (G_of_laidL hX1)).mono fun e W' ⟨he, bel⟩ => ?_
  subst he
  exact ⟨_, rfl, _, _, _, [], _, [], hW', trodAll_mk1 (shut_bool Tryz.underlying4 _), (trodAll_cons_mk (shut_int Tryz.underlying5 w0) (trodAll_cons_mk (Below.trod laidOut (by kernel_rfl) (of_decide_eq_true (by kernel_rfl)) k1 bel lt1) (trodAll_cons_mk (shut_int Tryz.underlying5 w2) (trodAll_cons_mk (shut_bool Tryz.underlying4 a3) trodAll_mk0)))), rfl, bel.frame _, fun h => by cases h⟩

set_option maxHeartbeats 4000000 in
set_option maxRecDepth 100000 in
theorem closed : joinedFacts Tryz.prog 3 Tryz.f3 Rows.logPlaysSpec Rows.logPlaysRow = true := by
  unfold joinedFacts
  simp only [Bool.and_eq_true]
  repeat' apply And.intro
  all_goals as_aux_lemma => kernel_rfl

set_option maxHeartbeats 4000000 in
theorem over : Rows.logPlaysRow.holds Tryz.pinned (OpenSpec.ofChange Rows.logPlaysSpec) :=
  OpenClaim.holds_of_wide 3 Tryz.f3 rfl rfl rfl rfl rfl rfl rfl ⟨rfl, rfl, rfl, rfl, rfl⟩ rfl rfl rfl rfl rfl (by kernel_rfl) Tryz.func3 closed
    (of_decide_eq_true (by kernel_rfl)) (by unfold Func.isWrapper; first | (rw [if_pos (by decide +kernel)]; kernel_rfl) | (rw [if_neg (by decide +kernel)]; exact ⟨rfl, rfl⟩))
    (fun os started H enc _ => lifted os started H enc)

set_option maxHeartbeats 4000000 in
theorem proved : Rows.LogPlaysCardSaid :=
  Claim7.holds_tied_plain_at .later [] [.data, .data, .pinned] true (true, "95d5dcc963f29f1f9ba13a6c6d68d10d7d59008c53bb6b3b5dc1e90669c3fd27") true
    over (fun _ h => by cases h) (by kernel_rfl) (fun _ h => by cases h) logPlays_row_tie rfl ⟨rfl, rfl⟩ (by kernel_rfl) rfl
    (fun f fn hf hfn => by
      obtain rfl : f = 3 := Option.some.inj ((show Tryz.prog.funcNamed "cashier/cashierlaw12.LogPlays" = some 3 by kernel_rfl).symm.trans hf) |>.symm
      obtain rfl : fn = Tryz.f3 := (Option.some.inj (Tryz.func3.symm.trans hfn)).symm
      exact ⟨by kernel_rfl, fun j t ht => by
        rw [Tryz.params3] at ht
        have hm : t ∈ [5, 22, 5, 4] := by simpa using Array.mem_of_getElem? ht
        have hall : ([5, 22, 5, 4].all fun u => !Tryz.prog.wantsStandIn u) = true := by kernel_rfl
        exact (show Tryz.prog.wantsStandIn t = false by simpa using List.all_eq_true.1 hall t hm)⟩)
    (by kernel_rfl)

end Go.Proofs.YtiaaeniopjpfpaaGreatDoor.logPlays
