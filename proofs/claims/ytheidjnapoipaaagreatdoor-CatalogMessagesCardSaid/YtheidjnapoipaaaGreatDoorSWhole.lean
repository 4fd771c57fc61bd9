/- The whole blocks of a text, as an iterator. -/
import Derived.Test.YtheidjnapoipaaaGreatDoorSPrimesI
import Derived.Test.YtheidjnapoipaaaGreatDoorSMix
namespace Go.Proofs.YtheidjnapoipaaaGreatDoor
open Go.RowKit Go.Shelf
set_option linter.unusedVariables false
attribute [local go_sem] Oper.semAt_some

/-- The first k blocks. -/
def blksB (s : ByteArray) (k : Nat) : List ByteArray := (List.range k).map fun i => s.extract (i * 64) ((i + 1) * 64)
theorem blksB_succ (s : ByteArray) (k : Nat) : blksB s (k + 1) = blksB s k ++ [s.extract (k * 64) ((k + 1) * 64)] := by simp [blksB, List.range_succ]
theorem blksB_length (s : ByteArray) (k : Nat) : (blksB s k).length = k := by simp [blksB]
theorem blk_size (s : ByteArray) {k : Nat} (h : k < s.size / 64) : (s.extract (k * 64) ((k + 1) * 64)).size = 64 := by rw [ByteArray.size_extract]; omega
theorem blksB_pre (s : ByteArray) {j k : Nat} (h : j ≤ k) : blksB s j <+: blksB s k := by
  unfold blksB
  obtain ⟨d, rfl⟩ : ∃ d, k = j + d := ⟨k - j, by omega⟩
  rw [List.range_add, List.map_append]
  exact List.prefix_append _ _

set_option maxRecDepth 100000 in
set_option maxHeartbeats 1000000 in
theorem whole1_in (n : Nat) (hn : 1 ≤ n) (l Bn E : Nat) (s : ByteArray) (hs : s.size ≤ 140737488355328) (J Jx : List Blk → World → Prop)
    (hY : ∀ pre x W, J pre W → pre.length < s.size / 64 → YieldAt Fence.wide (n - 1) Tryz.prog l #[.string x.1] W fun e W' =>
      (e = .returned (.bool true) ∧ J (pre ++ [x]) W' ∧ KeepsAt Bn E W W') ∨ (e = .returned (.bool false) ∧ Jx (pre ++ [x]) W' ∧ KeepsAt Bn E W W'))
    (W : World) (hb1 : W.heap[Bn]? = some (.cells #[.string s] 9 (0, 0))) (h0 : J [] W) :
    CallsIn Fence.wide n Tryz.prog 167 #[.func (.yield l) #[] #[], .pointer (some ⟨Bn, 0, none⟩)] W fun e W' => (∃ v, e = .returned v) ∧
      ((∃ ys : List Blk, ys.map Subtype.val = blksB s (s.size / 64) ∧ J ys W') ∨ (∃ pre : List Blk, pre.map Subtype.val <+: blksB s (s.size / 64) ∧ Jx pre W')) := by
  have hc1 : W.cell? ⟨Bn, 0, none⟩ = some (.string s) := by simp [World.cell?, hb1]
  obtain ⟨q, hq⟩ : ∃ q, s.size / 64 = q := ⟨_, rfl⟩
  have hqs : q * 64 ≤ s.size := by omega
  rw [hq] at hY ⊢
  have hqi : (s.size : Int) / 64 = (q : Int) := by omega
  refine callsIn_of_wp Tryz.func167 rfl trivial ?_ rfl
  simp only [Tryz.ntmps167, List.size_toArray, List.length_cons, List.length_nil, Nat.reduceAdd, Nat.reduceSub, Array.replicate_succ, Array.replicate_zero, List.push_toArray, List.append_toArray, List.nil_append, List.cons_append]
  have HQ := Lib.hid hq
  clear hq
  gi_wp2
  gi_loopw [7] (fun i wr => ∃ (pre : List Blk) (k : Nat), i = .int .i64 k ∧ k ≤ q ∧ pre.length = k ∧ wr.heap[Bn]? = some (.cells #[.string s] 9 (0, 0)) ∧ Hid (pre.map Subtype.val = blksB s k) ∧ J pre wr)
    (fun i _ => q - (intOf i).toNat)
  case atStart => exact ⟨[], 0, rfl, Nat.zero_le _, rfl, hb1, Lib.hid rfl, h0⟩
  case round =>
    obtain ⟨pre, k, rfl, hk, hpl, hbx, HP, hJs⟩ := hrel
    have hc2 : wr.cell? ⟨Bn, 0, none⟩ = some (.string s) := by simp [World.cell?, hbx]
    by_cases hlt : k < q
    · have hk64 : (k + 1) * 64 ≤ s.size := by omega
      obtain ⟨fn, tmps, assign, body, hy, hR⟩ := hY pre ⟨s.extract (k * 64) ((k + 1) * 64), blk_size s (by rw [HQ.out]; exact hlt)⟩ wr hJs (by omega)
      dsimp only at hy
      have HN : Hid ((pre ++ [(⟨s.extract (k * 64) ((k + 1) * 64), blk_size s (by rw [HQ.out]; exact hlt)⟩ : Blk)]).map Subtype.val = blksB s (k + 1)) := Lib.hid (by rw [List.map_append, HP.out, blksB_succ]; rfl)
      gi_wp2
      refine hR.mono ?_
      rintro e W3 (⟨rfl, hJ3, hk3⟩ | ⟨rfl, hJx3, _⟩)
      · gi_wp2
        go_roundw
        case rel => exact ⟨_, k + 1, by go_num, by omega, by simp [hpl], (hk3.2 Bn (.inl rfl) (Array.getElem?_eq_some_iff.1 hbx).1).trans hbx, HN, hJ3⟩
        case measure => simp [intOf]; omega
      · gi_wp2
        refine bodyPost_ret (results_none rfl _ _ _) rfl ?_
        exact ⟨⟨_, rfl⟩, .inr ⟨_, by rw [HN.out]; exact blksB_pre s (by omega), hJx3⟩⟩
    · have hkq : k = q := by omega
      rw [hkq] at HP
      have hge : q ≤ k := by omega
      clear hkq
      gi_wp2
      go_end0
      exact ⟨⟨_, rfl⟩, .inl ⟨pre, HP.out, hJs⟩⟩

set_option maxHeartbeats 1000000 in
theorem whole_in (n : Nat) (s : ByteArray) (w : World) :
    CallsIn Fence.wide n Tryz.prog 159 #[.string s] w fun e w' => e = .returned (.func (.func 167) #[] #[.pointer (some ⟨w.heap.size, 0, none⟩)]) ∧ w' = w.alloc (.cells #[.string s] 9) := by
  refine callsIn_of_wp Tryz.func159 rfl trivial ?_ rfl
  simp only [Tryz.ntmps159, List.size_toArray, List.length_cons, List.length_nil, Nat.reduceAdd, Nat.reduceSub, Array.replicate_succ, Array.replicate_zero, List.push_toArray, List.append_toArray, List.nil_append, List.cons_append]
  gi_wp2
  go_ret
  exact ⟨rfl, rfl⟩

theorem whole_stops (n : Nat) (hn : 1 ≤ n) (Bn E : Nat) (s : ByteArray) (hs : s.size ≤ 140737488355328) (w : World) (h1 : w.heap[Bn]? = some (.cells #[.string s] 9 (0, 0))) :
    Stops Fence.wide n Tryz.prog 167 #[.pointer (some ⟨Bn, 0, none⟩)] (fun x : Blk => #[.string x.1]) (KeepsAt Bn E) (fun ys => ys.map Subtype.val = blksB s (s.size / 64)) (fun pre => pre.map Subtype.val <+: blksB s (s.size / 64)) (s.size / 64) w := fun l J Jx W hW _ hJ _ hY h0 => by
  refine (whole1_in n hn l Bn E s hs J Jx hY W ((hW.block Bn (Array.getElem?_eq_some_iff.1 h1).1).trans h1) h0).mono ?_
  rintro e W' ⟨hv, (⟨ys, h, hj⟩ | ⟨pre, h, hj⟩)⟩
  · exact ⟨hv, .inl ⟨ys, h, hj⟩⟩
  · exact ⟨hv, .inr ⟨pre, h, hj⟩⟩

/-- The blocks as lists. -/
theorem blksB_data (s : ByteArray) (k : Nat) (ys : List Blk) (h : ys.map Subtype.val = blksB s k) (st : S8) : mixS st ys = mixK st s.data.toList k := by
  have e : mixS st ys = (ys.map Subtype.val).foldl (fun s b => comp s b.data.toList) st := by
    unfold mixS; rw [List.foldl_map]
  rw [e, h]
  clear h e
  induction k with
  | zero => rfl
  | succ k ih =>
    rw [blksB_succ, List.foldl_append, ih]
    show comp (mixK st s.data.toList k) _ = comp (mixK st s.data.toList k) (blk s.data.toList k)
    congr 1
    rw [Lib.extract_data, show (k + 1) * 64 - k * 64 = 64 by omega, show k * 64 = 64 * k by omega]
    rfl

/-- The state behind a text's whole blocks. -/
theorem mixed_whole (st : S8) (s : ByteArray) (hs : s.size ≤ 140737488355328) (w : World) (Bn : Nat) (h1 : w.heap[Bn]? = some (.cells #[.string s] 9 (0, 0))) :
    Calls Tryz.prog 150 #[s8v st, .func (.func 167) #[] #[.pointer (some ⟨Bn, 0, none⟩)]] w fun e w' => e = .returned (s8v (mixK st s.data.toList (s.size / 64))) ∧ Below w.heap.size w w' := by
  have hBn := (Array.getElem?_eq_some_iff.1 h1).1
  refine (mixed_any st 167 #[.pointer (some ⟨Bn, 0, none⟩)] Bn _ _ _ w hBn (enters_of Tryz.func167 (by kernel_rfl) rfl)
    (fun W hW => whole_stops 5 (by omega) Bn _ s hs W ((hW.block Bn hBn).trans h1))).mono ?_
  rintro e w' ⟨⟨ys, hys, rfl⟩, hb⟩
  exact ⟨by rw [blksB_data s _ ys hys], hb⟩
end Go.Proofs.YtheidjnapoipaaaGreatDoor
