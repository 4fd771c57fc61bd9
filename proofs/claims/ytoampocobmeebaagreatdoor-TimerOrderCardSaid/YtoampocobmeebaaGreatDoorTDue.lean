/- Due: those that are due, gone through: the iterator's contract. -/
import Derived.Test.YtoampocobmeebaaGreatDoorTSto
import Derived.Test.YtoampocobmeebaaGreatDoorLoopR
import Derived.Test.YtoampocobmeebaaGreatDoorWArr
import Derived.OwnWalkIn
import Derived.LoopNIn
import Derived.LoopIn
import Derived.Lib.OthersKept
import Derived.Shelf.Abstract
import Derived.TacticsInMore
namespace Go.Proofs.YtoampocobmeebaaGreatDoor.Tm
open Go.RowKit
set_option linter.unusedVariables false
set_option linter.unusedSimpArgs false

/-- What comes: a tick and an id. -/
def EncQ (B : Nat) (x : EN) (av : Array Value) (W : World) : Prop := av = #[.int .u64 x.tm, .agg (x.uid.map bv).toArray]
def dueQ (l : List EN) (now : Nat) : List EN := l.takeWhile fun x => decide (x.tm ≤ now)
theorem dueQ_le (l : List EN) (now : Nat) : (dueQ l now).length ≤ l.length := List.Sublist.length_le (List.takeWhile_sublist _)
theorem dueQ_take {l : List EN} {now k : Nat} (h : k ≤ (dueQ l now).length) : (dueQ l now).take k = l.take k := by
  have hp : dueQ l now <+: l := List.takeWhile_prefix _
  rw [List.prefix_iff_eq_take.1 hp, List.take_take, Nat.min_eq_left h]
theorem dueQ_more : ∀ {l : List EN} {now k : Nat} (hk : k < l.length), k ≤ (dueQ l now).length → l[k].tm ≤ now → k + 1 ≤ (dueQ l now).length
  | x :: l, now, 0, hk, _, h => by
    unfold dueQ
    rw [List.takeWhile_cons, if_pos (by simpa using h)]
    simp
  | x :: l, now, k + 1, hk, h1, h => by
    unfold dueQ at h1 ⊢
    rw [List.takeWhile_cons] at h1 ⊢
    by_cases hx : x.tm ≤ now
    · rw [if_pos (by simpa using hx)] at h1 ⊢
      simp only [List.length_cons] at h1 ⊢
      have := dueQ_more (l := l) (now := now) (k := k) (by simpa using hk) (by unfold dueQ; omega) (by simpa using h)
      unfold dueQ at this
      omega
    · rw [if_neg (by simpa using hx)] at h1
      simp at h1
theorem dueQ_stop : ∀ {l : List EN} {now k : Nat} (hk : k < l.length), k ≤ (dueQ l now).length → ¬ l[k].tm ≤ now → dueQ l now = l.take k
  | x :: l, now, 0, hk, _, h => by
    unfold dueQ
    rw [List.takeWhile_cons, if_neg (by simpa using h)]
    rfl
  | x :: l, now, k + 1, hk, h1, h => by
    unfold dueQ at h1 ⊢
    rw [List.takeWhile_cons] at h1 ⊢
    by_cases hx : x.tm ≤ now
    · rw [if_pos (by simpa using hx)] at h1 ⊢
      simp only [List.length_cons] at h1
      have := dueQ_stop (l := l) (now := now) (k := k) (by simpa using hk) (by unfold dueQ; omega) (by simpa using h)
      unfold dueQ at this
      rw [this, List.take_succ_cons]
    · rw [if_neg (by simpa using hx)] at h1
      simp at h1
theorem dueQ_end {l : List EN} {now : Nat} (h : l.length ≤ (dueQ l now).length) : dueQ l now = l := by
  have hp : dueQ l now <+: l := List.takeWhile_prefix _
  exact hp.eq_of_length (Nat.le_antisymm hp.length_le h)

/-- The blocks that the iterator reads. -/
def DueS (qb nb : Nat) (s : Value) (k : Nat) : Prop := k = qb ∨ k = nb ∨ s.ownBlock = some k
def HeldQ (qb nb : Nat) (s : Value) (W wr : World) : Prop := W.heap.size ≤ wr.heap.size ∧ ∀ k, DueS qb nb s k → k < W.heap.size → wr.heap[k]? = W.heap[k]?
theorem HeldQ.step {T : World → Nat → Prop} {qb nb : Nat} {s : Value} {W wr w3 : World} (hS : ∀ W1 k, DueS qb nb s k → ¬ T W1 k) (h : HeldQ qb nb s W wr) (k : KeepsT T wr w3) : HeldQ qb nb s W w3 :=
  ⟨Nat.le_trans h.1 k.1, fun b hb hl => ((k.2 b (Nat.lt_of_lt_of_le hl h.1) (hS _ _ hb)).1).trans (h.2 b hb hl)⟩
theorem HeldQ.below {qb nb : Nat} {s : Value} {W wr w3 : World} (h : HeldQ qb nb s W wr) (hb : Below wr.heap.size wr w3) : HeldQ qb nb s W w3 :=
  ⟨Nat.le_trans h.1 hb.size, fun b hbS hl => (hb.block b (Nat.lt_of_lt_of_le hl h.1)).trans (h.2 b hbS hl)⟩
theorem TBL.held {qb nb : Nat} {s : Value} {W wr : World} {l : List EN} (h : TBL W s l) (hk : HeldQ qb nb s W wr) : TBL wr s l := by
  refine ⟨h.1, ?_⟩
  rcases h.2 with h0 | ⟨g, cap, cur, rfl, h2, h3, h4⟩
  · exact Or.inl h0
  · exact Or.inr ⟨g, cap, cur, rfl, h2, (hk.2 g (.inr (.inr rfl)) (Array.getElem?_eq_some_iff.1 h3).1).trans h3, h4⟩

set_option maxRecDepth 100000 in
set_option maxHeartbeats 4000000 in
theorem Due_stops (l : List EN) (h64 : l.length ≤ 64) (now : Nat) (qb nb : Nat) (s : Value) (n : Nat) (hn : 1 ≤ n) (K : Obj → Prop) (w : World) (hq : Row w qb 29 [s]) (hnb : Row w nb 23 [.int .u64 now]) (hT : TBL w s l) :
    StopsR Fence.wide n Tryz.prog 26 #[.pointer (some ⟨qb, 0, none⟩), .pointer (some ⟨nb, 0, none⟩)] EncQ K (DueS qb nb s) (dueQ l now) w := by
  intro y T J Jx W hW hsz hJ hJx hLT hTJ hS hY h0
  have hq' := hq.below hW hq.lt
  have hnb' := hnb.below hW hnb.lt
  have hT' := hT.below hW
  obtain ⟨a, cap, rfl⟩ := hT.slice
  have HJ := Lib.hid hJ
  have HY := Lib.hid hY
  have HLT := Lib.hid hLT
  have HS := Lib.hid hS
  have HI0 : Hid (HeldQ qb nb (.slice a l.length cap) W W ∧ J [] W) := Lib.hid ⟨⟨Nat.le_refl _, fun _ _ _ => rfl⟩, h0⟩
  have HQ := Lib.hid hq'
  have HN := Lib.hid hnb'
  have HT := Lib.hid hT'
  have hszW := hsz
  clear hW hJ hY hLT hTJ h0 hJx hS hq hnb hT hT' hsz
  have c0 := HQ.out.cell 0
  simp only [List.getElem?_cons_zero] at c0
  clear hq' hnb'
  refine callsIn_of_wp Tryz.func26 rfl trivial ?_ rfl
  simp only [Tryz.ntmps26, List.size_toArray, List.length_cons, List.length_nil, Nat.reduceAdd, Nat.reduceSub, Array.replicate_succ, Array.replicate_zero, List.push_toArray, List.append_toArray, List.nil_append, List.cons_append]
  gi_wp2_with fail
  clear c0
  gi_loopw [9] (fun x wr => ∃ k : Nat, x = .int .i64 k ∧ k ≤ l.length ∧ k ≤ (dueQ l now).length ∧ Hid (HeldQ qb nb (.slice a l.length cap) W wr ∧ J (l.take k) wr)) (fun x _ => l.length - (intOf x).toNat)
  case atStart => exact ⟨0, by go_num, Nat.zero_le _, Nat.zero_le _, HI0⟩
  case round =>
    obtain ⟨k, rfl, hk, hkd, HI⟩ := hrel
    clear HI0
    by_cases hlt : k < l.length
    · have hltI : (k : Int) < (l.length : Int) := by omega
      obtain ⟨g, cap', he, hg, hrng⟩ := (HT.out.held HI.out.1).cell k hlt
      injection he with he1 he2 he3
      subst he1 he3
      clear he2
      have hld := Lib.hid hrng
      have hmore := Lib.hid (fun h => dueQ_more (now := now) hlt hkd h)
      have hstop := Lib.hid (fun h => dueQ_stop (now := now) hlt hkd h)
      have htk := Lib.hid (List.take_succ_eq_append_getElem hlt)
      clear hrng
      obtain ⟨x, hx⟩ : ∃ x, l[k] = x := ⟨_, rfl⟩
      rw [hx] at hld hmore hstop htk
      clear hx
      have hC17 := cells_len x
      have hC1 : ∀ v ∈ x.cells, v.oneCell' = true := fun v hv => cellsL_one [x] v (by simpa [cellsL] using hv)
      obtain ⟨wr2, hwr2⟩ : ∃ wr2, (wr.alloc (.cells zeroE 58)).setRow wr.heap.size x.cells.toArray = wr2 := ⟨_, rfl⟩
      have hab : Below wr.heap.size wr wr2 := by rw [← hwr2]; exact below_setRow (B := wr.heap.size) ((Below.refl _ _).alloc (Nat.le_refl _) _) (Nat.le_refl _) _
      have hrow : Row wr2 wr.heap.size 58 x.cells := by rw [← hwr2]; exact setRow_heap _ _ zeroE _ _ (0, 0) (heap_alloc_new wr _)
      simp only [zeroE] at hwr2
      have HWR := Lib.hid hwr2
      clear hwr2
      have hH2 := HI.out.1.below hab
      have J2 := HJ.out.grown hab HI.out.2
      have K2 : KeepsT T wr wr2 := keepsT_below HLT.out (by have := HI.out.1.1; omega) hab
      have n2 : Row wr2 nb 23 [.int .u64 now] := (hH2.2 nb (.inr (.inl rfl)) HN.out.lt).trans HN.out
      have d0 := hrow.cell 0
      have m0 := n2.cell 0
      have hlD := bv_len x.huid
      have hl2 : Hid (wr2.rangeAt wr.heap.size 1 (x.uid.map bv)) := Lib.hid (row_range1 (by rw [← cells_uid]; exact hrow))
      simp only [cells_uid, List.getElem?_cons_zero] at d0 m0
      have hz2 := hab.size
      have hH2' := Lib.hid (And.intro hH2 J2)
      clear hrow n2 hab hH2 J2
      by_cases hdue : x.tm ≤ now
      · have hdI : ¬ (now : Int) < (x.tm : Int) := by omega
        have hkd2 := hmore.out hdue
        have htk2 : (dueQ l now).take (k + 1) = l.take k ++ [x] := (dueQ_take hkd2).trans htk.out
        obtain ⟨fn, tmps, assign, body, hy, hRd⟩ := HY.out (l.take k) x #[.int .u64 x.tm, .agg (x.uid.map bv).toArray] wr2 hH2'.out.2 (by rw [← htk2]; exact List.take_prefix _ _) (by have := HI.out.1.1; omega) rfl
        have HRd := Lib.hid hRd
        have HS2 := Lib.hid hH2'.out.1
        rw [← htk.out] at HRd
        have hpre : l.take (k + 1) <+: dueQ l now := by rw [htk.out, ← htk2]; exact List.take_prefix _ _
        have HP := Lib.hid hpre
        clear hRd hpre K2 hH2' htk2 hstop hmore htk
        rw [cells_uid] at hld hC17 hC1 HWR
        obtain ⟨D, hD⟩ : ∃ D, x.uid.map bv = D := ⟨_, rfl⟩
        rw [hD] at hld hl2 hy hC17 hC1 HWR hlD
        gi_wp2_with (first
          | (refine wpListIn_load_midW rfl 58 (.tmp 11) rfl g (k * 17) rfl (Value.int .u64 x.tm :: D) _ hld.out Tryz.underlying58 rfl (ent_size hC17) ?_)
          | (refine wpListIn_store_rowW rfl 58 (.tmp 5) (.tmp 12) rfl wr.heap.size (Value.int .u64 x.tm :: D).toArray rfl rfl 58 zeroE (heap_alloc_new wr _) (by rw [List.size_toArray]; exact ent_size hC17) (by simp [zeroE, hlD]) (all_oneCell_toArray hC1) ?_; rw [HWR.out])
          | (refine wpListIn_load_midW (by first | rfl | simp [Region.wanted, yielded]) 25 (.tmp 21) rfl wr.heap.size 1 rfl D _ hl2.out Tryz.underlying25 rfl (uid_size hlD) ?_))
        refine HRd.out.mono ?_
        rintro e W5 (⟨rfl, hJ5, hk5⟩ | ⟨rfl, hJx5, hk5⟩)
        · have HI5 := Lib.hid (And.intro (HeldQ.step HS.out HS2.out hk5) hJ5)
          clear hJ5 hk5 d0 m0 hl2 hld
          gi_wp2
          go_roundw
          case rel => exact ⟨k + 1, by go_num, by omega, hkd2, HI5⟩
          case measure => simp [intOf]; omega
        · clear hk5 d0 m0 hl2 hld
          gi_wp2
          exact bodyPost_ret (results_none rfl _ _ _) rfl ⟨⟨_, rfl⟩, .inr ⟨_, HP.out, hJx5⟩⟩
      · have hdI : (now : Int) < (x.tm : Int) := by omega
        have hfull := hstop.out hdue
        have hJf := hH2'.out.2
        rw [← hfull] at hJf
        have HJf := Lib.hid hJf
        clear hJf hfull hstop hmore htk hH2' K2
        rw [cells_uid] at hld hC17 hC1 HWR
        obtain ⟨D, hD⟩ : ∃ D, x.uid.map bv = D := ⟨_, rfl⟩
        rw [hD] at hld hl2 hC17 hC1 HWR hlD
        gi_wp2_with (first
          | (refine wpListIn_load_midW rfl 58 (.tmp 11) rfl g (k * 17) rfl (Value.int .u64 x.tm :: D) _ hld.out Tryz.underlying58 rfl (ent_size hC17) ?_)
          | (refine wpListIn_store_rowW rfl 58 (.tmp 5) (.tmp 12) rfl wr.heap.size (Value.int .u64 x.tm :: D).toArray rfl rfl 58 zeroE (heap_alloc_new wr _) (by rw [List.size_toArray]; exact ent_size hC17) (by simp [zeroE, hlD]) (all_oneCell_toArray hC1) ?_; rw [HWR.out])
          | (refine wpListIn_skip (by rfl) (by first | rfl | simp [Oper.about, resolve, Act.eval] | (simp [Oper.about, resolve, Act.eval, stuck])) ?_))
        exact bodyPost_ret (results_none rfl _ _ _) rfl ⟨⟨_, rfl⟩, .inl HJf.out⟩
    · have hge : ¬ (k : Int) < (l.length : Int) := by omega
      have hkl : k = l.length := by omega
      have hfull : dueQ l now = l.take k := by rw [hkl, List.take_length]; exact dueQ_end (by omega)
      have hJf := HI.out.2
      rw [← hfull] at hJf
      have HJf := Lib.hid hJf
      clear hJf hfull hkl
      gi_wp2
      go_end0
      exact ⟨⟨_, rfl⟩, .inl HJf.out⟩
end Go.Proofs.YtoampocobmeebaaGreatDoor.Tm
