/- The texts that are entered, one behind the other, as an iterator. -/
import Derived.RangeFuncNested
import Derived.RangeFuncBound
import Derived.RangeFuncCalls
import Derived.RangeFuncLeaves
import Derived.RangeFuncBox
import Derived.OwnWalkIn
import Derived.TacticsInMore
import Derived.LoopNIn
import Derived.LoopIn
import Derived.Lib.OthersKept
import Derived.Shelf.Abstract
import Derived.Test.YtlmbijhkpgolaaaDoorOtpA
import Derived.Test.YtlmbijhkpgolaaaDoorLoopP
import Derived.Test.YtlmbijhkpgolaaaDoorFStrs
namespace Go.Proofs.YtlmbijhkpgolaaaDoor
open Go.RowKit Go.Shelf
set_option linter.unusedVariables false
set_option linter.unusedSimpArgs false
attribute [local go_sem] Oper.semAt_some

/-- A state's tries and how it is over, behind a text that is entered ahead of the deadline; how that went. -/
def stepO (c : ByteArray) (t o : Int) (said : ByteArray) : Int × Int := if o ≠ 0 then (t, o) else if c = said then (t, 1) else if t ≤ 1 then (0, 2) else (t - 1, 0)
def howO (c : ByteArray) (t o : Int) (said : ByteArray) : Int := if o ≠ 0 then o else if c = said then 1 else if t ≤ 1 then 2 else 5
def okO (t o : Int) : Prop := (o = 0 → 1 ≤ t) ∧ t ≤ 9
theorem okO.step {c : ByteArray} {t o : Int} {said : ByteArray} (h : okO t o) : okO (stepO c t o said).1 (stepO c t o said).2 := by
  unfold okO stepO at *
  split
  · exact h
  · split
    · exact ⟨fun e => by simp at e, h.2⟩
    · split
      · exact ⟨fun e => by simp at e, by show (0 : Int) ≤ 9; omega⟩
      · exact ⟨fun _ => by show 1 ≤ t - 1; omega, by show t - 1 ≤ 9; omega⟩
theorem enter_step (c said : ByteArray) (t d o : Int) (hc : c.size ≤ 140737488355328) (hd : 0 < d) (h : okO t o) (w : World) :
    Calls Tryd.prog 12 #[.agg #[.int .i64 t, .int .u64 d, .int .i64 o], .string c, .string said, .int .u64 0] w fun e w' => e = .returned (.tuple #[.agg #[.int .i64 (stepO c t o said).1, .int .u64 d, .int .i64 (stepO c t o said).2], .int .i64 (howO c t o said)]) ∧ Below w.heap.size w w' := by
  unfold stepO howO okO at *
  by_cases ho : o ≠ 0
  · rw [if_pos ho, if_pos ho]
    exact enter_over t d o 0 c said w ho
  · obtain rfl : o = 0 := by omega
    rw [if_neg ho, if_neg ho]
    by_cases hcs : c = said
    · rw [if_pos hcs, if_pos hcs]
      subst hcs
      exact enter_right t d 0 c w hc hd
    · rw [if_neg hcs, if_neg hcs]
      by_cases ht : t ≤ 1
      · rw [if_pos ht, if_pos ht]
        obtain rfl : t = 1 := by have := h.1 rfl; omega
        exact enter_out d 0 c said w hc hd hcs
      · rw [if_neg ht, if_neg ht]
        exact enter_wrong t d 0 c said w hc hd hcs (by omega) (by omega)

/-- What Run goes through. -/
abbrev RunI := ByteArray × Int × Int
def runL (c : ByteArray) : Int → Int → List ByteArray → List RunI
  | _, _, [] => []
  | t, o, s :: l => (s, stepO c t o s) :: runL c (stepO c t o s).1 (stepO c t o s).2 l
def encR (d : Int) (x : RunI) : Array Value := #[.string x.1, .agg #[.int .i64 x.2.1, .int .u64 d, .int .i64 x.2.2]]
theorem runL_length (c : ByteArray) : ∀ (l : List ByteArray) (t o : Int), (runL c t o l).length = l.length
  | [], _, _ => rfl
  | s :: l, t, o => by rw [runL, List.length_cons, runL_length, List.length_cons]

set_option maxHeartbeats 1000000 in
theorem run_any (t d o : Int) (c : ByteArray) (a : Option Addr) (n cap : Nat) (w : World) :
    Calls Tryd.prog 11 #[.agg #[.int .i64 t, .int .u64 d, .int .i64 o], .string c, .slice a n cap] w fun e w' => e = .returned (.func (.func 19) #[] #[.pointer (some ⟨w.heap.size, 0, none⟩), .pointer (some ⟨w.heap.size + 1 + 1, 0, none⟩), .pointer (some ⟨w.heap.size + 1, 0, none⟩)]) ∧
      w' = ((w.alloc (.cells #[.int .i64 t, .int .u64 d, .int .i64 o] 24)).alloc (.cells #[.string c] 9)).alloc (.cells #[.slice a n cap] 33) := by
  go_enter Tryd.func11, Tryd.ntmps11
  go_wp2
  go_ret
  exact ⟨rfl, rfl⟩

/-- What Run reads: three boxes and the texts. -/
structure RunAt (W : World) (bs bl bc g off cap : Nat) (A : Option Addr) (t d o : Int) (c : ByteArray) (l : List ByteArray) : Prop where
  st : Row W bs 24 [.int .i64 t, .int .u64 d, .int .i64 o]
  li : Row W bl 33 [.slice A l.length cap]
  co : Row W bc 9 [.string c]
  lt : g < W.heap.size
  tx : ∀ j, j < l.length → W.cell? ⟨g, off + j, none⟩ = some (.string (l.getD j ByteArray.empty))
def RunS (bs bl bc g : Nat) (k : Nat) : Prop := k = bs ∨ k = bl ∨ k = bc ∨ k = g
theorem RunAt.keep {W W' : World} {bs bl bc g off cap : Nat} {A : Option Addr} {t d o : Int} {c : ByteArray} {l : List ByteArray} (h : RunAt W bs bl bc g off cap A t d o c l) {E : Nat} (k : KeepsS (RunS bs bl bc g) E W W') : RunAt W' bs bl bc g off cap A t d o c l := by
  refine ⟨(k.2 bs (.inl (.inl rfl)) h.st.lt).trans h.st, (k.2 bl (.inl (.inr (.inl rfl))) h.li.lt).trans h.li, (k.2 bc (.inl (.inr (.inr (.inl rfl)))) h.co.lt).trans h.co, Nat.lt_of_lt_of_le h.lt k.1, fun j hj => ?_⟩
  have hb := k.2 g (.inl (.inr (.inr (.inr rfl)))) h.lt
  have := h.tx j hj
  simp only [World.cell?] at this ⊢
  rw [hb]
  exact this
theorem RunAt.below {W W' : World} {bs bl bc g off cap : Nat} {A : Option Addr} {t d o : Int} {c : ByteArray} {l : List ByteArray} (h : RunAt W bs bl bc g off cap A t d o c l) (k : Below W.heap.size W W') : RunAt W' bs bl bc g off cap A t d o c l :=
  h.keep (E := W.heap.size) ⟨k.size, fun j hj hl => k.block j hl⟩
theorem RunAt.far {W : World} {bs bl bc g off cap : Nat} {A : Option Addr} {t d o : Int} {c : ByteArray} {l : List ByteArray} (h : RunAt W bs bl bc g off cap A t d o c l) {p : Addr} (hp : ¬ RunS bs bl bc g p.block) (v : Value) : RunAt (W.setCell p v) bs bl bc g off cap A t d o c l :=
  h.keep (E := W.heap.size) ⟨by simp [World.setCell], fun j hj hl => Below.heap_setCell W p v j (by
    intro e; subst e
    rcases hj with hj | hj
    · exact hp hj
    · omega)⟩
theorem OwnK.setCell {β : Type} {B : Nat} {J : β → World → Prop} (h : OwnK B (fun _ => True) J) {s : β} {W : World} {p : Addr} (v : Value) (hj : J s W) (hr : B ≤ p.block) (ho : p.block < W.heap.size) : J s (W.setCell p v) :=
  h s W _ (some p.block) hj ⟨rfl, rfl, rfl, by simp [World.setCell], fun k hk hne => Below.heap_setCell W p v k (fun e => hne (by rw [e]))⟩ (fun r e => by injection e with e; subst e; exact ⟨hr, _, Array.getElem?_eq_getElem ho, trivial⟩)

set_option maxRecDepth 100000 in
set_option maxHeartbeats 4000000 in
theorem run_stops (n : Nat) (hn : 1 ≤ n) (bs bl bc g off cap : Nat) (A : Option Addr) (t d o : Int) (c : ByteArray) (l : List ByteArray) (hA : 0 < l.length → A = some ⟨g, off, none⟩) (hl : l.length ≤ 1000000) (hc : c.size ≤ 140737488355328) (hd : 0 < d) (hok : okO t o) (w : World) (hR : RunAt w bs bl bc g off cap A t d o c l) :
    StopsP Fence.wide n Tryd.prog 19 #[.pointer (some ⟨bs, 0, none⟩), .pointer (some ⟨bl, 0, none⟩), .pointer (some ⟨bc, 0, none⟩)] (encR d) (KeepsS (RunS bs bl bc g) (w.heap.size + 2)) (fun _ => True) (runL c t o l) w := by
  intro y J Jx W hW hsz hJ hJx hY h0
  have HR := Lib.hid (hR.below hW)
  have HJ := Lib.hid hJ
  have HY := Lib.hid hY
  have hsb := hR.st.lt
  have hlb := hR.li.lt
  have hcb := hR.co.lt
  have hgb := hR.lt
  clear hR hW hJ hY
  refine callsIn_of_wp Tryd.func19 rfl trivial ?_ rfl
  simp only [Tryd.ntmps19, List.size_toArray, List.length_cons, List.length_nil, Nat.reduceAdd, Nat.reduceSub, Array.replicate_succ, Array.replicate_zero, List.push_toArray, List.append_toArray, List.nil_append, List.cons_append]
  have q0 := HR.out.st.cell 0
  have q1 := HR.out.st.cell 1
  have q2 := HR.out.st.cell 2
  have q3 := HR.out.li.cell 0
  simp only [List.getElem?_cons_zero, List.getElem?_cons_succ] at q0 q1 q2 q3
  have I0 : Hid (RunAt (W.alloc (.cells #[.int .i64 t, .int .u64 d, .int .i64 o] 24)) bs bl bc g off cap A t d o c l ∧ Row (W.alloc (.cells #[.int .i64 t, .int .u64 d, .int .i64 o] 24)) W.heap.size 24 [.int .i64 t, .int .u64 d, .int .i64 o] ∧ J [] (W.alloc (.cells #[.int .i64 t, .int .u64 d, .int .i64 o] 24))) := Lib.hid ⟨HR.out.below ((Below.refl _ _).alloc (Nat.le_refl _) _), Row.new W _ [.int .i64 t, .int .u64 d, .int .i64 o], HJ.out.grown ((Below.refl _ _).alloc (Nat.le_refl _) _) h0⟩
  have hsbW : bs < W.heap.size := by omega
  have hlbW : bl < W.heap.size := by omega
  have hcbW : bc < W.heap.size := by omega
  have hlI : (l.length : Int) ≤ 1000000 := by omega
  gi_wp2
  clear q0 q1 q2 q3
  generalize W.alloc (.cells #[.int .i64 t, .int .u64 d, .int .i64 o] 24) = Wa at I0 ⊢
  have hok0 := Lib.hid hok
  clear hok h0 HR
  gi_loopw [11] (fun x wr => ∃ (k : Nat) (pre : List RunI) (t' o' : Int), x = .int .i64 k ∧ k ≤ l.length ∧ Hid (pre ++ runL c t' o' (l.drop k) = runL c t o l) ∧ Hid (okO t' o') ∧ Hid (RunAt wr bs bl bc g off cap A t d o c l ∧ Row wr W.heap.size 24 [.int .i64 t', .int .u64 d, .int .i64 o'] ∧ J pre wr)) (fun x _ => l.length - (intOf x).toNat)
  case atStart => exact ⟨0, [], t, o, by go_num, Nat.zero_le _, Lib.hid rfl, hok0, I0⟩
  case round =>
    obtain ⟨k, pre, t', o', rfl, hk, HP, HO, HI⟩ := hrel
    clear I0 hok0
    by_cases hlt : k < l.length
    · have hltI : (k : Int) < (l.length : Int) := by omega
      obtain rfl := hA (by omega)
      clear hA
      obtain ⟨said, hsaid⟩ : ∃ s, l[k] = s := ⟨_, rfl⟩
      have qs := HI.out.1.tx k hlt
      rw [List.getD_eq_getElem?_getD, List.getElem?_eq_getElem hlt, Option.getD_some, hsaid] at qs
      have p0 := HI.out.2.1.cell 0
      have p1 := HI.out.2.1.cell 1
      have p2 := HI.out.2.1.cell 2
      have q3 := HI.out.1.co.cell 0
      simp only [List.getElem?_cons_zero, List.getElem?_cons_succ] at p0 p1 p2 q3
      obtain ⟨t2, ht2⟩ : ∃ x, (stepO c t' o' said).1 = x := ⟨_, rfl⟩
      obtain ⟨o2, ho2⟩ : ∃ x, (stepO c t' o' said).2 = x := ⟨_, rfl⟩
      have hdrop : runL c t' o' (l.drop k) = (said, t2, o2) :: runL c t2 o2 (l.drop (k + 1)) := by
        rw [List.drop_eq_getElem_cons hlt, hsaid, runL, ← ht2, ← ho2]
      have HD := Lib.hid hdrop
      have HO2 : Hid (okO t2 o2) := Lib.hid (by rw [← ht2, ← ho2]; exact HO.out.step)
      have HE : Hid (∀ W, Calls Tryd.prog 12 #[.agg #[.int .i64 t', .int .u64 d, .int .i64 o'], .string c, .string said, .int .u64 0] W fun e w' => e = .returned (.tuple #[.agg #[.int .i64 t2, .int .u64 d, .int .i64 o2], .int .i64 (howO c t' o' said)]) ∧ Below W.heap.size W w') := Lib.hid fun W => by rw [← ht2, ← ho2]; exact enter_step c said t' d o' hc hd HO.out W
      have hwz := HI.out.2.1.lt
      clear hdrop ht2 ho2 hsaid
      gi_wp2_with fail
      refine ⟨trivial, (callsIn_wide.2 (HE.out _)).mono ?_⟩
      rintro e w3 ⟨rfl, hb3⟩
      have HI3 := Lib.hid (And.intro (HI.out.1.below hb3) (And.intro (HI.out.2.1.below hb3 HI.out.2.1.lt) (HJ.out.grown hb3 HI.out.2.2)))
      have r0 := HI3.out.2.1.cell 0
      have r1 := HI3.out.2.1.cell 1
      have r2 := HI3.out.2.1.cell 2
      have f0 := HI3.out.2.1.frozen 0
      have f1 := HI3.out.2.1.frozen 1
      have f2 := HI3.out.2.1.frozen 2
      simp only [List.getElem?_cons_zero, List.getElem?_cons_succ] at r0 r1 r2
      have hz3 : W.heap.size < w3.heap.size := HI3.out.2.1.lt
      clear hb3 p0 p1 p2 q3 qs
      have S4 := st_set HI3.out.2.1 (.int .i64 t2) (.int .u64 d) (.int .i64 o2)
      have s0 := S4.cell 0
      have s1 := S4.cell 1
      have s2 := S4.cell 2
      simp only [List.getElem?_cons_zero, List.getElem?_cons_succ] at s0 s1 s2
      have J4 := (HJ.out.setCell (p := ⟨W.heap.size, 2, none⟩) (.int .i64 o2) (HJ.out.setCell (p := ⟨W.heap.size, 1, none⟩) (.int .u64 d) (HJ.out.setCell (p := ⟨W.heap.size, 0, none⟩) (.int .i64 t2) HI3.out.2.2 (Nat.le_refl _) hz3) (Nat.le_refl _) (by simpa [World.setCell] using hz3)) (Nat.le_refl _) (by simpa [World.setCell] using hz3))
      have hns : ¬ RunS bs bl bc g W.heap.size := by unfold RunS; omega
      have R4 := ((HI3.out.1.far (p := ⟨W.heap.size, 0, none⟩) hns (.int .i64 t2)).far (p := ⟨W.heap.size, 1, none⟩) hns (.int .u64 d)).far (p := ⟨W.heap.size, 2, none⟩) hns (.int .i64 o2)
      obtain ⟨fn, tmps, assign, body, hy, hRd⟩ := HY.out pre (said, t2, o2) _ J4 ⟨runL c t2 o2 (l.drop (k + 1)), by rw [← HP.out, HD.out]; simp⟩ (by simp [World.setCell]; omega)
      change (Instr.yield y #[.string said, .agg #[.int .i64 t2, .int .u64 d, .int .i64 o2]]).run Tryd.prog _ = _ at hy
      have HRd := Lib.hid hRd
      have H4 := Lib.hid (And.intro S4 R4)
      clear hRd S4 R4 J4
      gi_wp2_with fail
      refine HRd.out.mono ?_
      rintro e W5 (⟨rfl, hJ5, hk5⟩ | ⟨rfl, hJx5, hk5⟩)
      · have HI5 := Lib.hid (And.intro (H4.out.2.keep hk5) (And.intro ((hk5.2 W.heap.size (.inr hsz) H4.out.1.lt).trans H4.out.1) hJ5))
        clear hJ5 hk5 s0 s1 s2 r0 r1 r2
        gi_wp2
        go_roundw
        case rel => exact ⟨k + 1, pre ++ [(said, t2, o2)], t2, o2, by go_num, by omega, Lib.hid (by rw [← HP.out, HD.out]; simp), HO2, HI5⟩
        case measure => simp [intOf]; omega
      · have hpre : pre ++ [(said, t2, o2)] <+: runL c t o l := ⟨runL c t2 o2 (l.drop (k + 1)), by rw [← HP.out, HD.out]; simp⟩
        clear hk5 s0 s1 s2 r0 r1 r2
        gi_wp2
        exact bodyPost_ret (results_none rfl _ _ _) rfl ⟨⟨_, rfl⟩, .inr ⟨_, hpre, hJx5⟩⟩
    · have hge : ¬ (k : Int) < (l.length : Int) := by omega
      have hfull : pre = runL c t o l := by
        rw [← HP.out, List.drop_of_length_le (by omega), runL, List.append_nil]
      have hJf := HI.out.2.2
      rw [hfull] at hJf
      have HJf := Lib.hid hJf
      clear hJf hfull
      gi_wp2
      go_end0
      exact ⟨⟨_, rfl⟩, .inl HJf.out⟩
end Go.Proofs.YtlmbijhkpgolaaaDoor
