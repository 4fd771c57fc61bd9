/- A table gone through: All as an iterator; Insert in all cases. -/
import Derived.RangeFuncNested
import Derived.RangeFuncBound
import Derived.RangeFuncCalls
import Derived.RangeFuncLeaves
import Derived.RangeFuncBox
import Derived.OwnWalkIn
import Derived.TacticsInMore
import Derived.LoopNIn
import Derived.LoopIn
import Derived.Lib.OthersKept
import Derived.Shelf.Abstract
import Derived.Test.YtldjnegoefdadaaGreatDoorVBest
import Derived.Test.YtldjnegoefdadaaGreatDoorRIns
namespace Go.Proofs.YtldjnegoefdadaaGreatDoor
open Go.RowKit Go.Shelf
set_option linter.unusedVariables false
set_option linter.unusedSimpArgs false
attribute [local go_sem] Oper.semAt_some

theorem Insert_any (B : Nat) (l : List RG) (h64 : l.length ≤ 63) (r : RG) (i : Nat) (hi : i ≤ l.length) (s : Value) (vb : Nat) (w : World) (hB : B ≤ w.heap.size) (hO : OWN B w s l) (hv : Row w vb 30 r.cells) (hne : s.ownBlock ≠ some vb) :
    Calls Tryz.prog 42 #[s, .int .i64 i, .slice (some ⟨vb, 0, none⟩) 1 1] w fun e w' => ∃ s', e = .returned s' ∧ OWN B w' s' (insL l i r) ∧ Below B w w' := by
  by_cases hil : i = l.length
  · subst hil
    exact Insert_end B l h64 r s vb w hB hO hv
  · rcases hO.2 with ⟨_, h0⟩ | ⟨g, cap, cur, rfl, hBg, hg, h3, h4, h5, h6⟩
    · omega
    · by_cases hroom : l.length + 1 ≤ cap
      · exact Insert_room B l h64 r i (by omega) g cap cur vb w hBg hg hroom h4 h5 h6 hv (fun e => hne (by rw [e]; rfl))
      · exact Insert_grow B l h64 r i (by omega) g cap cur vb w hB hg h3 (by omega) h6 hv

abbrev encA (x : RG × Nat) : Array Value := #[.int .i64 (x.2 : Nat), .agg #[.string x.1.lo, .string x.1.hi, .string x.1.acs, .string x.1.low, .string x.1.high, .int .i64 x.1.mode]]
def KeepsA (g : Nat) (W W' : World) : Prop := W'.heap[g]? = W.heap[g]?
theorem keepsA_t {g : Nat} {A B C : World} (h : KeepsA g A B) (k : KeepsA g B C) : KeepsA g A C := k.trans h
theorem keepsA_b {g : Nat} {w : World} (hg : g < w.heap.size) (W : World) (l : Nat) (o o' : Obj) (hl : w.heap.size ≤ l) (h : W.heap[l]? = some o) (h1 : o.isCells = false) (hw : o.isWalk = false) : KeepsA g W (W.putObj l o') := World.putObj_heap_other (by omega)
/-- The elements of a slice, in block g. -/
def ElemsAt (W : World) (g : Nat) (a : Option Addr) (ls : List RG) : Prop := ∃ cur t fr, W.heap[g]? = some (.cells cur t fr) ∧ (ls = [] ∨ (a = some ⟨g, 0, none⟩ ∧ cur.toList.take (ls.length * 6) = cellsL ls))
theorem ElemsAt.same {W W' : World} {g : Nat} {a : Option Addr} {ls : List RG} (h : ElemsAt W g a ls) (k : W'.heap[g]? = W.heap[g]?) : ElemsAt W' g a ls := by
  obtain ⟨cur, t, fr, h1, h2⟩ := h
  exact ⟨cur, t, fr, k.trans h1, h2⟩
theorem ElemsAt.at {W : World} {g : Nat} {a : Option Addr} {ls : List RG} (h : ElemsAt W g a ls) (j : Nat) (hj : j < ls.length) : a = some ⟨g, 0, none⟩ ∧ W.rangeAt g (j * 6) ls[j].cells := by
  obtain ⟨cur, t, fr, h1, h2 | ⟨h2, h3⟩⟩ := h
  · rw [h2] at hj; cases hj
  · refine ⟨h2, fun q v hq => ?_⟩
    have hq6 : q < 6 := by
      have := (List.getElem?_eq_some_iff.1 hq).1
      rwa [cells_len] at this
    have h4 := rangeAt_of_cur h1 h3 (j * 6 + q) v (by rw [cellsL_get ls j hj q hq6]; exact hq)
    rwa [Nat.zero_add] at h4
theorem zip_snoc (ls : List RG) (j : Nat) (hj : j < ls.length) : ls.zipIdx.take (j + 1) = ls.zipIdx.take j ++ [(ls[j], j)] := by
  rw [List.take_succ_eq_append_getElem (by simpa using hj)]
  simp

set_option maxRecDepth 100000 in
set_option maxHeartbeats 1000000 in
theorem All1_in (n : Nat) (hn : 1 ≤ n) (l Bn g : Nat) (a : Option Addr) (cap : Nat) (ls : List RG) (h64 : ls.length ≤ 64) (J Jx : List (RG × Nat) → World → Prop)
    (hY : ∀ pre x W, J pre W → (pre ++ [x]) <+: ls.zipIdx → YieldAt Fence.wide (n - 1) Tryz.prog l (encA x) W fun e W' =>
      (e = .returned (.bool true) ∧ J (pre ++ [x]) W' ∧ KeepsA g W W') ∨ (e = .returned (.bool false) ∧ Jx (pre ++ [x]) W'))
    (W : World) (hJ : AbidesFrom W.heap.size J) (hBn : Row W Bn 25 [.slice a ls.length cap]) (hE : ElemsAt W g a ls) (h0 : J [] W) :
    CallsIn Fence.wide n Tryz.prog 85 #[.func (.yield l) #[] #[], .pointer (some ⟨Bn, 0, none⟩)] W fun e W' => (∃ v, e = .returned v) ∧
      ((∃ ys, ys = ls.zipIdx ∧ J ys W') ∨ (∃ pre, pre <+: ls.zipIdx ∧ Jx pre W')) := by
  have c0 := hBn.cell 0
  simp only [List.getElem?_cons_zero] at c0
  refine callsIn_of_wp Tryz.func85 rfl trivial ?_ rfl
  simp only [Tryz.ntmps85, List.size_toArray, List.length_cons, List.length_nil, Nat.reduceAdd, Nat.reduceSub, Array.replicate_succ, Array.replicate_zero, List.push_toArray, List.append_toArray, List.nil_append, List.cons_append]
  gi_wp2
  gi_loopw [7] (fun i wr => ∃ j : Nat, j ≤ ls.length ∧ i = .int .i64 j ∧ Hid (ElemsAt wr g a ls) ∧ J (ls.zipIdx.take j) wr) (fun i _ => ls.length - (intOf i).toNat)
  case atStart => exact ⟨0, Nat.zero_le _, rfl, Lib.hid hE, h0⟩
  case round =>
    obtain ⟨j, hj, rfl, HE, hJr⟩ := hrel
    clear c0
    have HJ : Hid (∀ w2, Below wr.heap.size wr w2 → J (ls.zipIdx.take j) w2) := Lib.hid fun w2 hb => hJ _ wr w2 none hJr (grownBy_belowV hb none) (fun r e => by cases e)
    by_cases hlt : j < ls.length
    · have hltI : (j : Int) < (ls.length : Int) := by omega
      obtain ⟨rfl, hrng⟩ := HE.out.at j hlt
      have p0 := hrng 0 _ rfl
      have p1 := hrng 1 _ rfl
      have p2 := hrng 2 _ rfl
      have p3 := hrng 3 _ rfl
      have p4 := hrng 4 _ rfl
      have p5 := hrng 5 _ rfl
      rw [Nat.add_zero] at p0
      have hz := zip_snoc ls j hlt
      have hpre : ls.zipIdx.take j ++ [(ls[j], j)] <+: ls.zipIdx := by rw [← hz]; exact List.take_prefix _ _
      obtain ⟨r, hr⟩ : ∃ r, ls[j] = r := ⟨_, rfl⟩
      rw [hr] at hz hpre p0 p1 p2 p3 p4 p5
      have HZ := Lib.hid hz
      clear hrng hr hz
      have hbw : Below wr.heap.size wr (wr.alloc (.cells #[.string r.lo, .string r.hi, .string r.acs, .string r.low, .string r.high, .int .i64 r.mode] 30)) := (Below.refl _ _).alloc (Nat.le_refl _) _
      obtain ⟨fn, tmps, assign, body, hy, hR⟩ := hY _ (r, j) _ (HJ.out _ hbw) hpre
      dsimp only [encA] at hy
      change (Instr.yield l #[.int .i64 (j : Nat), .agg #[.string r.lo, .string r.hi, .string r.acs, .string r.low, .string r.high, .int .i64 r.mode]]).run Tryz.prog _ = _ at hy
      have HR := Lib.hid hR
      have HP := Lib.hid hpre
      have HE1 : Hid (ElemsAt (wr.alloc (.cells #[.string r.lo, .string r.hi, .string r.acs, .string r.low, .string r.high, .int .i64 r.mode] 30)) g (some ⟨g, 0, none⟩) ls) := Lib.hid (HE.out.same (hbw.block g (by obtain ⟨_, _, _, h, _⟩ := HE.out; exact (Array.getElem?_eq_some_iff.1 h).1)))
      clear hJr hY hR hbw hpre
      gi_wp2
      refine HR.out.mono ?_
      rintro e W3 (⟨rfl, hJ3, hk3⟩ | ⟨rfl, hJx3⟩)
      · gi_wp2
        go_roundw
        case rel => exact ⟨j + 1, by omega, by go_num, Lib.hid (HE1.out.same hk3), by rw [HZ.out]; exact hJ3⟩
        case measure => simp [intOf]; omega
      · gi_wp2
        refine bodyPost_ret (results_none rfl _ _ _) rfl ?_
        exact ⟨⟨_, rfl⟩, .inr ⟨_, HP.out, hJx3⟩⟩
    · have hltI : ¬ (j : Int) < (ls.length : Int) := by omega
      rw [List.take_of_length_le (by simp; omega)] at hJr
      gi_wp2
      go_end0
      first
        | exact ⟨⟨_, rfl⟩, .inl ⟨_, rfl, hJr⟩⟩
        | exact ⟨⟨_, rfl⟩, .inl hJr⟩

set_option maxHeartbeats 1000000 in
theorem SAll_any (a : Option Addr) (n cap : Nat) (w : World) :
    Calls Tryz.prog 64 #[.slice a n cap] w fun e w' => e = .returned (.func (.func 85) #[] #[.pointer (some ⟨w.heap.size, 0, none⟩)]) ∧ w' = w.alloc (.cells #[.slice a n cap] 25) := by
  go_enter Tryz.func64, Tryz.ntmps64
  go_wp2
  go_ret
  exact ⟨rfl, rfl⟩
set_option maxHeartbeats 1000000 in
theorem TAll_any (a : Option Addr) (n cap : Nat) (w : World) :
    Calls Tryz.prog 40 #[.agg #[.slice a n cap]] w fun e w' => e = .returned (.func (.func 85) #[] #[.pointer (some ⟨w.heap.size + 1, 0, none⟩)]) ∧ w' = (w.alloc (.cells #[.slice a n cap] 27)).alloc (.cells #[.slice a n cap] 25) := by
  have HS := Lib.hid (fun W => SAll_any a n cap W)
  go_enter Tryz.func40, Tryz.ntmps40
  go_wp2_with fail
  refine (HS.out _).mono ?_
  rintro e w1 ⟨rfl, rfl⟩
  go_wp2
  go_ret
  exact ⟨by simp, rfl⟩

/-- A range of the table, with its place. -/
abbrev Kx (ls : List RG) := { x : RG × Nat // x.1 ∈ ls }
theorem zip_mem {ls : List RG} {x : RG × Nat} (h : x ∈ ls.zipIdx) : x.1 ∈ ls := by
  obtain ⟨y, i⟩ := x
  have := List.mem_zipIdx h
  rw [this.2.2]
  exact List.getElem_mem _
theorem All_stops (n : Nat) (hn : 1 ≤ n) (Bn g : Nat) (a : Option Addr) (cap : Nat) (ls : List RG) (h64 : ls.length ≤ 64) (w : World) (hBn : Row w Bn 25 [.slice a ls.length cap]) (hE : ElemsAt w g a ls) :
    SeqStopsK Fence.wide n Tryz.prog 85 #[.pointer (some ⟨Bn, 0, none⟩)] (fun x : Kx ls => encA x.1) (KeepsA g) (fun ys => ys.map Subtype.val = ls.zipIdx) (fun pre => pre.map Subtype.val <+: ls.zipIdx) ls.length w := fun l J Jx W hW hJ _ hY h0 => by
  refine (All1_in n hn l Bn g a cap ls h64 (fun pre W => ∃ p : List (Kx ls), p.map Subtype.val = pre ∧ J p W) (fun pre W => ∃ p : List (Kx ls), p.map Subtype.val = pre ∧ Jx p W) ?_ W (fun s A B row h hg hr => by
    obtain ⟨p, hp, hj⟩ := h
    exact ⟨p, hp, hJ p A B row hj hg hr⟩) (hBn.below hW hBn.lt) (hE.same (hW.block g (by obtain ⟨_, _, _, h, _⟩ := hE; exact (Array.getElem?_eq_some_iff.1 h).1))) ⟨[], rfl, h0⟩).mono ?_
  · rintro pre x W1 ⟨p, rfl, hp⟩ hpre
    have hx : x.1 ∈ ls := zip_mem (hpre.subset (by simp))
    have hlen : p.length < ls.length := by
      have h1 := hpre.length_le
      rw [List.length_append, List.length_map, List.length_singleton, List.length_zipIdx] at h1
      omega
    obtain ⟨fn, tmps, assign, body, hy, hR⟩ := hY p ⟨x, hx⟩ W1 hp hlen
    refine ⟨fn, tmps, assign, body, hy, hR.mono ?_⟩
    rintro e W' (⟨h1, h2, h3⟩ | ⟨h1, h2⟩)
    · exact .inl ⟨h1, ⟨_, by simp, h2⟩, h3⟩
    · exact .inr ⟨h1, ⟨_, by simp, h2⟩⟩
  · rintro e W' ⟨hv, (⟨ys, rfl, p, hp, hj⟩ | ⟨pre, hpre, p, rfl, hj⟩)⟩
    · exact ⟨hv, .inl ⟨p, hp, hj⟩⟩
    · exact ⟨hv, .inr ⟨p, hpre, hj⟩⟩
end Go.Proofs.YtldjnegoefdadaaGreatDoor
