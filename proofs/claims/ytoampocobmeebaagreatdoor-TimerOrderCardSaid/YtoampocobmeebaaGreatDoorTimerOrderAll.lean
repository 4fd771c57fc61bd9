/- The statement of TimerOrder: whatever comes in, the law answers true, and what came in reads as it did. (In one text with what it leans on: TOrderW, Laid, Laid4, TimerOrder.) -/
import Derived.Lib.LaidTab
import Derived.WalkKit
import Derived.ProofKit
import Derived.OpenShut
import Derived.ShutString
import Derived.SizedLaws
import Derived.LaidMore
import Derived.Stop.Joined
import Derived.SevenTiedAt
import Derived.Deep.DeepHandedRow
import Derived.Test.YtoampocobmeebaaGreatDoorTOPl
import Derived.Test.YtoampocobmeebaaGreatDoorTimerOrderAll1
import Derived.Test.YtoampocobmeebaaGreatDoorSlotsL
import Derived.Test.YtoampocobmeebaaGreatDoorRows
import Derived.Test.YtoampocobmeebaaGreatDoorCards
import Derived.Test.YtoampocobmeebaaGreatDoorTie
import Derived.Test.YtoampocobmeebaaGreatDoorTCome
namespace Go.Proofs.YtoampocobmeebaaGreatDoor.Tm
open Go.RowKit Go.Maps Go.WideMaps
set_option linter.unusedVariables false
set_option linter.unusedSimpArgs false

theorem atQ_lt (l : List EN) (u : List UInt8) : (atQ l u).1 < 18446744073709551616 := by
  unfold atQ
  cases l.find? (fun x => decide (x.uid = u)) with
  | none => decide
  | some x => exact x.htm
theorem OWN.same2 {B : Nat} {w w' : World} {s : Value} {l : List EN} (h : OWN B w s l) (hh : ∀ g, s.ownBlock = some g → w'.heap[g]? = w.heap[g]?) : OWN B w' s l := by
  refine ⟨h.1, ?_⟩
  rcases h.2 with h0 | ⟨g, cap, cur, rfl, h2, h3, h4⟩
  · exact Or.inl h0
  · exact Or.inr ⟨g, cap, cur, rfl, h2, (hh g rfl).trans h3, h4⟩
theorem wpOps_oneO {P : Program} {ops : Array Oper} {Q : Exit → Act → World → Prop} {k : Nat} {a : Act} {w : World} (o : Oper) (ho : ops[k]? = some o) (hs : ops.size = k + 1) (h : wpList P ops Q [o] a w) : wpOps P ops Q [k] a w := by
  have e := wpOps_eq_wpList (P := P) (ops := ops) (Q := Q) [o] k (fun j => by
    cases j with
    | zero => simp [ho]
    | succ j => rw [Array.getElem?_eq_none (by omega)]; simp)
  have e2 : List.range' k [o].length = [k] := rfl
  rw [e2] at e
  rw [e]
  exact h
theorem ownsMap_belowT {P : Program} {k : TypeId} {R : Value → Option (DataW Unit × List MemPlace)} {w w' : World} {b n : Nat} {D : DataW Unit} (h : w.ownsMap P k R b n D) (hb : Below w.heap.size w w') : w'.ownsMap P k R b n D :=
  h.kept (row := none) ⟨hb.os, hb.tape, hb.output, hb.size, fun j hj _ => hb.block j hj⟩ (by simp)
def zeroAO : Array Value := #[.int .u8 0, .int .u8 0, .int .u8 0, .int .u8 0, .int .u8 0, .int .u8 0, .int .u8 0, .int .u8 0, .int .u8 0, .int .u8 0, .int .u8 0, .int .u8 0, .int .u8 0, .int .u8 0, .int .u8 0, .int .u8 0, .int .u64 0, .bool false]
theorem ao_size {C : List Value} (h : C.length = 18) : (Tryz.prog.info? 32).map (·.size) = some C.length := by rw [h]; kernel_rfl
/-- All but one box is kept. -/
def GrT (xb : Nat) (W W' : World) : Prop := W.heap.size ≤ W'.heap.size ∧ ∀ k, k < W.heap.size → k ≠ xb → W'.heap[k]? = W.heap[k]?
theorem GrT.refl (xb : Nat) (W : World) : GrT xb W W := ⟨Nat.le_refl _, fun _ _ _ => rfl⟩
theorem GrT.of {xb : Nat} {W W' : World} (h : Below W.heap.size W W') : GrT xb W W' := ⟨h.size, fun k hk _ => h.block k hk⟩
theorem GrT.set (xb : Nat) (W : World) (v : Value) : GrT xb W (W.setCell ⟨xb, 0, none⟩ v) := ⟨by simp [World.setCell], fun k _ hk => Below.heap_setCell _ ⟨xb, 0, none⟩ _ k hk⟩
theorem OWN.gr {B xb : Nat} {W W' : World} {s : Value} {l : List EN} (h : OWN B W s l) (hg : GrT xb W W') (hx : xb < B) : OWN B W' s l :=
  OWN.same2 h (fun g hgs => hg.2 g (World.ownsRow.lt h g hgs).2 (by have := (World.ownsRow.lt h g hgs).1; omega))
theorem grown_set {xb : Nat} {w0 W : World} (h : Below w0.heap.size w0 W) (v : Value) (hx : True) : w0.grownBy (W.setCell ⟨xb, 0, none⟩ v) (some xb) :=
  ⟨h.os, h.tape, h.output, by simp [World.setCell]; exact h.size, fun k hk hne => (Below.heap_setCell _ ⟨xb, 0, none⟩ _ k (fun e => hne (by rw [e]))).trans (h.block k hk)⟩
/-- Ahead of the store all that was is as it was; behind it the box holds the new queue. -/
def CO (xb B : Nat) (w0 : World) (P : List EN) : Bool → World → Prop
  | false, W => Below w0.heap.size w0 W
  | true, W => (∃ s, Row W xb 29 [s] ∧ OWN B W s P) ∧ w0.grownBy W (some xb)
theorem stepX_load {P : Program} {ρ : Operand → Value} {oi : Oper} {R : Value → World → Prop} {C : World → Prop} {Gr : World → World → Prop} {w : World} (ty : TypeId) (x : Operand) (ho : oi.op = .load ty x)
    (b o : Nat) (hx : ρ x = .pointer (some ⟨b, o, none⟩)) (cs : List Value) (d : TypeDesc) (hc : w.rangeAt b o cs)
    (hu : P.underlying ty = some d) (hd : d.isRow = true) (hi : (P.info? ty).map (·.size) = some cs.length) (hR : R (.agg cs.toArray) w) (hC : C w) (hG : Gr w w) :
    StepX P (execOp ρ oi) R C Gr w := by
  unfold StepX execOp
  simp only [ho, hx, Instr.loadAt, Instr.sureAddr, Sem.run_bind, Sem.run_pure, Result.andThen_ok, run_loadVar_mid w b o ty cs d hc hu hd hi]
  exact ⟨hR, hC, hG⟩
/-- What stands in the second loop: the map, two boxes with two queues. -/
structure StO (mb nn : Nat) (D : DataW Unit) (pb qb : Nat) (w : World) (sp sq : Value) (p q : List EN) (wr : World) : Prop where
  mp : wr.ownsMap Tryz.prog 25 (plainElem (H := Unit) Tryz.prog 23) mb nn D
  rp : Row wr pb 29 [sp]
  rq : Row wr qb 29 [sq]
  op : OWN (qb + 1) wr sp p
  oq : OWN (qb + 1) wr sq q
  be : Below w.heap.size w wr
theorem StO.below {mb nn : Nat} {D : DataW Unit} {pb qb : Nat} {w : World} {sp sq : Value} {p q : List EN} {wr wr' : World} (h : StO mb nn D pb qb w sp sq p q wr) (hb : Below wr.heap.size wr wr') : StO mb nn D pb qb w sp sq p q wr' :=
  ⟨ownsMap_belowT h.mp hb, h.rp.below hb h.rp.lt, h.rq.below hb h.rq.lt, OWN.below h.op hb, OWN.below h.oq hb, h.be.trans (hb.mono h.be.size)⟩
theorem StO.putp {mb nn : Nat} {D : DataW Unit} {pb qb : Nat} {w : World} {sp sq sp' : Value} {p q p' : List EN} {wr : World} (h : StO mb nn D pb qb w sp sq p q wr) (h1 : w.heap.size ≤ pb) (h2 : pb < qb) (h3 : mb ≠ pb) (ho : OWN (qb + 1) wr sp' p') : StO mb nn D pb qb w sp' sq p' q (wr.setCell ⟨pb, 0, none⟩ sp') :=
  ⟨World.ownsMap.setCell h.mp (a := ⟨pb, 0, none⟩) h3 _, h.rp.set 0 sp', h.rq.far (by show qb ≠ pb; omega) _, OWN.same ho (fun g hg => Below.heap_setCell _ ⟨pb, 0, none⟩ _ g (by show g ≠ pb; omega)), OWN.same h.oq (fun g hg => Below.heap_setCell _ ⟨pb, 0, none⟩ _ g (by show g ≠ pb; omega)), h.be.setCell (p := ⟨pb, 0, none⟩) h1 _⟩
theorem StO.putq {mb nn : Nat} {D : DataW Unit} {pb qb : Nat} {w : World} {sp sq sq' : Value} {p q q' : List EN} {wr : World} (h : StO mb nn D pb qb w sp sq p q wr) (h1 : w.heap.size ≤ qb) (h2 : pb < qb) (h3 : mb ≠ qb) (ho : OWN (qb + 1) wr sq' q') : StO mb nn D pb qb w sp sq' p q' (wr.setCell ⟨qb, 0, none⟩ sq') :=
  ⟨World.ownsMap.setCell h.mp (a := ⟨qb, 0, none⟩) h3 _, h.rp.far (by show pb ≠ qb; omega) _, h.rq.set 0 sq', OWN.same h.op (fun g hg => Below.heap_setCell _ ⟨qb, 0, none⟩ _ g (by show g ≠ qb; omega)), OWN.same ho (fun g hg => Below.heap_setCell _ ⟨qb, 0, none⟩ _ g (by show g ≠ qb; omega)), h.be.setCell (p := ⟨qb, 0, none⟩) h1 _⟩
theorem OWN.grown3 {B xb : Nat} {X Y : World} {s : Value} {q : List EN} (h : OWN B X s q) (hg : X.grownBy Y (some xb)) (hx : xb < B) : OWN B Y s q :=
  OWN.same2 h (fun g hgs => hg.block g (World.ownsRow.lt h g hgs).2 (fun e => by injection e with e; have := (World.ownsRow.lt h g hgs).1; omega))
theorem below_grown3 {xb : Nat} {w X Y : World} (h : Below w.heap.size w X) (hg : X.grownBy Y (some xb)) (hx : w.heap.size ≤ xb) : Below w.heap.size w Y :=
  ⟨hg.os.trans h.os, hg.tape.trans h.tape, hg.output.trans h.output, Nat.le_trans h.size hg.size, fun k hk => (hg.block k (Nat.lt_of_lt_of_le hk h.size) (fun e => by injection e with e; omega)).trans (h.block k hk)⟩
theorem StO.newp {mb nn : Nat} {D : DataW Unit} {pb qb : Nat} {w : World} {sp sq sp' : Value} {p q p' : List EN} {wr W : World} (h : StO mb nn D pb qb w sp sq p q wr) (hg : wr.grownBy W (some pb)) (h1 : w.heap.size ≤ pb ∧ pb < qb) (h3 : mb ≠ pb) (hr : Row W pb 29 [sp']) (ho : OWN (qb + 1) W sp' p') : StO mb nn D pb qb w sp' sq p' q W :=
  ⟨h.mp.kept hg (by simpa using h3), hr, (hg.block qb h.rq.lt (by simp; omega)).trans h.rq, ho, OWN.grown3 h.oq hg (by omega), below_grown3 h.be hg h1.1⟩
theorem StO.newq {mb nn : Nat} {D : DataW Unit} {pb qb : Nat} {w : World} {sp sq sq' : Value} {p q q' : List EN} {wr W : World} (h : StO mb nn D pb qb w sp sq p q wr) (hg : wr.grownBy W (some qb)) (h1 : w.heap.size ≤ qb ∧ pb < qb) (h3 : mb ≠ qb) (hr : Row W qb 29 [sq']) (ho : OWN (qb + 1) W sq' q') : StO mb nn D pb qb w sp sq' p q' W :=
  ⟨h.mp.kept hg (by simpa using h3), (hg.block pb h.rp.lt (by simp; omega)).trans h.rp, hr, OWN.grown3 h.op hg (by omega), ho, below_grown3 h.be hg h1.1⟩

set_option maxRecDepth 100000 in
set_option maxHeartbeats 4000000 in
theorem TimerOrder_walk (s0 : Value) (L : List AN) (by1 : Nat) (w : World) (hL : InA w s0 L) (hwf : ∀ r ∈ L, r.wf) (hby : by1 ≤ 255) (hG : G w) :
    Calls Tryz.prog 4 #[s0, .int .u8 by1] w fun e w' => e = .returned (.bool true) ∧ Below w.heap.size w w' := by
  obtain ⟨la, lcap, rfl, hLc⟩ := hL
  obtain ⟨kl, K⟩ := kl_ex
  have HG := Lib.hid hG
  have HWF := Lib.hid hwf
  have HLC := Lib.hid hLc
  have HK := Lib.hid K
  clear hG hwf hLc K
  go_enter Tryz.func4, Tryz.ntmps4
  go_wp2_with fail
  refine (awake24_any _ HG.out).mono ?_
  rintro e w2 ⟨rfl, hb⟩
  have hz2 := hb.size
  have HB2 := Lib.hid hb
  clear hb
  by_cases h0 : L.length = 0
  · have h0I : ((L.length : Nat) : Int) = 0 := by omega
    go_wp2
    go_ret
    exact ⟨rfl, HB2.out⟩
  have h0I : ¬ ((L.length : Nat) : Int) = 0 := by omega
  by_cases hbig : 16 < L.length
  · have hbigI : (16 : Int) < (L.length : Int) := by omega
    go_wp2
    go_ret
    exact ⟨rfl, HB2.out⟩
  have hbigI : ¬ (16 : Int) < (L.length : Int) := by omega
  have g1 : (((L.length : Nat) : Int) == 0) = false := by simpa using h0I
  have g2 : decide ((16 : Int) < ((L.length : Nat) : Int)) = false := decide_eq_false hbigI
  have hmm := @run_makeMap Tryz.prog
  obtain ⟨mb, hmb⟩ : ∃ mb, w2.heap.size = mb := ⟨_, rfl⟩
  have m0 := World.ownsMap_made w2 Tryz.prog 25 (plainElem (H := Unit) Tryz.prog 23)
  rw [hmb] at m0
  have S0 : Hid ((w2.alloc (.map #[] 0)).ownsMap Tryz.prog 25 (plainElem (H := Unit) Tryz.prog 23) mb 0 (.map []) ∧ Below w.heap.size w (w2.alloc (.map #[] 0))) := Lib.hid ⟨m0, HB2.out.alloc (by omega) _⟩
  clear m0
  go_wp2_with fail
  go_loopw [25] (fun x wr => ∃ k : Nat, x = .int .i64 k ∧ k ≤ L.length ∧ ∃ D, Hid (wr.ownsMap Tryz.prog 25 (plainElem (H := Unit) Tryz.prog 23) mb k D ∧ MapIs kl D (setsF L k) ∧ Below w.heap.size w wr)) (fun x _ => L.length - (intOf x).toNat)
  case atStart => exact ⟨0, by go_num, Nat.zero_le _, _, Lib.hid ⟨S0.out.1, MapIs.nil kl, S0.out.2⟩⟩
  case round =>
    obtain ⟨k, rfl, hk, Dm, HI⟩ := hrel
    clear S0
    by_cases hlt : k < L.length
    · have hltI : (k : Int) < (L.length : Int) := by omega
      obtain ⟨g, off, rfl, hg, hrng⟩ := HLC.out k hlt
      have hwk := HWF.out _ (List.getElem_mem hlt)
      have hst := Lib.hid (setsF_succ L k hlt)
      obtain ⟨x, hx⟩ : ∃ x, L[k] = x := ⟨_, rfl⟩
      rw [hx] at hrng hwk hst
      clear hx
      have hC := an_len hwk
      have hC1 : ∀ v ∈ x.cells, v.oneCell' = true := fun v hv => by
        simp only [AN.cells, List.mem_append, List.mem_map, List.mem_cons, List.not_mem_nil, or_false] at hv
        rcases hv with ⟨c, _, rfl⟩ | rfl | rfl <;> rfl
      have hbw := HI.out.2.2.size
      have hmlt := HI.out.1.lt
      have hld : Hid (wr.rangeAt g (off + k * 18) x.cells) := Lib.hid fun j v hj => by rw [World.cell?_of_block (HI.out.2.2.block g hg)]; exact hrng j v hj
      obtain ⟨wr2, hwr2⟩ : ∃ wr2, (wr.alloc (.cells zeroAO 32)).setRow wr.heap.size x.cells.toArray = wr2 := ⟨_, rfl⟩
      have hab : Below wr.heap.size wr wr2 := by rw [← hwr2]; exact below_setRow (B := wr.heap.size) ((Below.refl _ _).alloc (Nat.le_refl _) _) (Nat.le_refl _) _
      have hrow : Row wr2 wr.heap.size 32 x.cells := by rw [← hwr2]; exact setRow_heap _ _ zeroAO _ _ (0, 0) (heap_alloc_new wr _)
      simp only [zeroAO] at hwr2
      have HWR := Lib.hid hwr2
      have S2 := Lib.hid (And.intro (ownsMap_belowT HI.out.1 hab) (And.intro HI.out.2.1 (HI.out.2.2.trans (hab.mono hbw))))
      have hz2' := hab.size
      have l2 : Hid (wr2.rangeAt wr.heap.size 0 (x.uid.map bv)) := Lib.hid (fun j v hj => by
        rw [Nat.zero_add, hrow.cell]
        unfold AN.cells
        rw [List.getElem?_append_left (List.getElem?_eq_some_iff.1 hj).1]
        exact hj)
      have d16 := hrow.cell 16
      have hul := bv_len hwk.1
      have e16 : x.cells[16]? = some (.int .u64 x.tm) := by
        unfold AN.cells
        rw [List.getElem?_append_right (by omega), hul]
        rfl
      rw [e16] at d16
      have hkey := Lib.hid (HK.out.is x.uid hwk.1)
      have hel := Lib.hid (plainElem_int (H := Unit) Tryz.underlying23 (a := (x.tm : Int)) (by have := hwk.2; simp [Lit.wf, IntKind.min, IntKind.max, IntKind.signed, IntKind.bits]; omega))
      have hen := Lib.hid (And.intro (enOf_wf hwk) (MapIs.put HK.out S2.out.2.1 (first_sets HWF.out k hk).1 (EN.of x hwk)))
      have hun : (EN.of x hwk).uid = x.uid := rfl
      have htn : (EN.of x hwk).tm = x.tm := rfl
      rw [hun, htn] at hen
      obtain ⟨A, hA⟩ : ∃ A, x.uid.map bv = A := ⟨_, rfl⟩
      obtain ⟨C, hCC⟩ : ∃ C, x.cells = C := ⟨_, rfl⟩
      rw [hA] at l2 hul hkey
      rw [hCC] at hld HWR hC hC1
      clear hwr2 hab hrow hrng e16 hA hCC HI
      go_wp2_with (first
        | (refine wpList_load_mid rfl 32 (.tmp 27) rfl g (off + k * 18) rfl C _ hld.out Tryz.underlying32 rfl (ao_size hC) ?_)
        | (refine wpList_store_row rfl 32 (.tmp 7) (.tmp 28) rfl wr.heap.size C.toArray rfl rfl 32 zeroAO (heap_alloc_new wr _) (by rw [List.size_toArray]; exact ao_size hC) (by simp [zeroAO, hC]) (all_oneCell_toArray hC1) ?_; rw [HWR.out])
        | (refine ld_uid rfl (.tmp 30) rfl wr.heap.size 0 rfl A hul l2.out ?_)
        | (at_mapUpdate; refine wpList_mapUpdate_own _ rfl (.tmp 29) (.tmp 31) (.tmp 33) 51 rfl 25 23 uid_keyed Tryz.underlying51 _ mb k Dm rfl S2.out.1 (by unfold maxLen; omega) _ _ (kl x.uid) rfl rfl hkey.out _ [] hel.out ?_; intro w5 hown5 hgrow5))
      have B5 : Below w.heap.size w w5 := S2.out.2.2.grown hgrow5 (by omega) (by intro j hj; injection hj with hj; omega)
      have S5 := Lib.hid (And.intro hown5 B5)
      clear hown5 hgrow5 B5
      go_wp2_with fail
      go_roundw
      case rel => exact ⟨k + 1, by go_num, by omega, _, Lib.hid ⟨S5.out.1, by rw [hst.out, hen.out.1]; exact hen.out.2, S5.out.2⟩⟩
      case measure => simp [intOf]; omega
    · have hgeI : ¬ (k : Int) < (L.length : Int) := by omega
      have hkn : k = L.length := by omega
      subst hkn
      have HM := Lib.hid (And.intro HI.out.2.1 (first_sets HWF.out L.length (Nat.le_refl _)))
      have hmlt := HI.out.1.lt
      have hbw := HI.out.2.2.size
      obtain ⟨m, hm⟩ : ∃ m, setsF L L.length = m := ⟨_, rfl⟩
      rw [hm] at HM
      have HMM := Lib.hid hm
      clear hm
      obtain ⟨pb, hpb⟩ : ∃ pb, wr.heap.size = pb := ⟨_, rfl⟩
      have rp := (Row.new wr 29 [.slice none 0 0]).alloc (.cells #[.slice none 0 0] 29)
      have rq := Row.new (wr.alloc (.cells #[.slice none 0 0] 29)) 29 [.slice none 0 0]
      rw [World.size_alloc] at rq
      have bb := ((Below.refl wr.heap.size wr).alloc (Nat.le_refl _) (.cells #[.slice none 0 0] 29)).alloc (by simp) (.cells #[.slice none 0 0] 29)
      change Row ((wr.alloc (.cells #[.slice none 0 0] 29)).alloc (.cells #[.slice none 0 0] 29)) wr.heap.size 29 [.slice none 0 0] at rp
      change Row ((wr.alloc (.cells #[.slice none 0 0] 29)).alloc (.cells #[.slice none 0 0] 29)) (wr.heap.size + 1) 29 [.slice none 0 0] at rq
      have S1 : Hid (StO mb L.length Dm pb (pb + 1) w (.slice none 0 0) (.slice none 0 0) [] [] ((wr.alloc (.cells #[.slice none 0 0] 29)).alloc (.cells #[.slice none 0 0] 29))) := Lib.hid (by
        rw [hpb] at rp rq bb
        exact ⟨ownsMap_belowT HI.out.1 (hpb ▸ bb), rp, rq, World.ownsRow_nil _ _ _ _, World.ownsRow_nil _ _ _ _, HI.out.2.2.trans (bb.mono (by omega))⟩)
      clear rp rq bb HI
      have hmx : Tryz.prog.follows Departure.mixedOrders = true := by kernel_rfl
      go_wp2_with fail
      go_loopw [37] (fun x wq => ∃ i : Nat, x = .int .i64 i ∧ i ≤ L.length ∧ ∃ sp sq q, Hid (StO mb L.length Dm pb (pb + 1) w sp sq (setsF L i) q wq ∧ Again L m by1 i q)) (fun x _ => L.length - (intOf x).toNat)
      case atStart => exact ⟨0, by go_num, Nat.zero_le _, _, _, _, Lib.hid ⟨S1.out, Again.nil L m by1⟩⟩
      case round =>
        obtain ⟨i, rfl, hi, sp, sq, q, HJ⟩ := hrel
        clear S1
        by_cases hlt : i < L.length
        · have hltI : (i : Int) < (L.length : Int) := by omega
          obtain ⟨g, off, rfl, hg, hrng⟩ := HLC.out i hlt
          have hwk := HWF.out _ (List.getElem_mem hlt)
          have hst := Lib.hid (setsF_succ L i hlt)
          obtain ⟨x, hx⟩ : ∃ x, L[i] = x := ⟨_, rfl⟩
          rw [hx] at hrng hwk hst
          clear hx
          have hFi := first_sets HWF.out i hi
          have HP := Lib.hid (And.intro hFi.1 (show (setsF L i).length ≤ 15 by have := hFi.2.1; omega))
          have hen := Lib.hid (enOf_wf hwk)
          obtain ⟨p, hp⟩ : ∃ p, setsF L i = p := ⟨_, rfl⟩
          rw [hp] at HJ hst HP
          clear hp hFi
          obtain ⟨ap, cp, rfl⟩ := HJ.out.1.op.tbl.slice
          obtain ⟨aq, cq, rfl⟩ := HJ.out.1.oq.tbl.slice
          have HSe := Lib.hid (fun W h => Set_any p HP.out.1 (by have := HP.out.2; omega) (EN.of x hwk) (.slice ap p.length cp) W h)
          have hun : (EN.of x hwk).uid = x.uid := rfl
          have htn : (EN.of x hwk).tm = x.tm := rfl
          rw [hun, htn] at HSe
          have hul := bv_len hwk.1
          have hbq := HJ.out.1.be.size
          have hpq := HJ.out.1.rp.lt
          have hld : Hid (wr.rangeAt g (off + i * 18) x.cells) := Lib.hid fun j v hj => by rw [World.cell?_of_block (HJ.out.1.be.block g hg)]; exact hrng j v hj
          obtain ⟨A, hA⟩ : ∃ A, x.uid.map bv = A := ⟨_, rfl⟩
          obtain ⟨tm, htm⟩ : ∃ tm, x.tm = tm := ⟨_, rfl⟩
          obtain ⟨P, hP⟩ : ∃ P, setQ p (EN.of x hwk) = P := ⟨_, rfl⟩
          have hdl : (dropQ p x.uid).length ≤ 15 := by have := dropQ_len p x.uid; have := HP.out.2; omega
          unfold SetPost at HSe
          rw [hA, htm, hP, hun] at HSe
          rw [hA] at hul
          have hqlt := HJ.out.1.rq.lt
          have l2 : Hid (∀ W, Below wr.heap.size wr W → W.rangeAt g (off + i * 18) A ∧ W.cell? ⟨g, off + i * 18 + 16, none⟩ = some (.int .u64 tm)) := Lib.hid (fun W hW => by
            have hg' : g < wr.heap.size := by omega
            have e16 : x.cells[16]? = some (.int .u64 x.tm) := by
              unfold AN.cells
              rw [List.getElem?_append_right (by rw [List.length_map, hwk.1]; omega), List.length_map, hwk.1]
              rfl
            refine ⟨fun j v hj => ?_, ?_⟩
            · rw [World.cell?_of_block (hW.block g hg')]
              refine hld.out j v ?_
              unfold AN.cells
              rw [← hA] at hj
              rw [List.getElem?_append_left (List.getElem?_eq_some_iff.1 hj).1]
              exact hj
            · rw [World.cell?_of_block (hW.block g hg'), ← htm]
              exact hld.out 16 _ e16)
          have hHP := Lib.hid (And.intro hP (And.intro hA htm))
          clear hP hA htm hrng hun htn
          go_wp2_with fail
          refine wp_region_slotsXB (m := 16) [] hmx (fun ix v W => (ix = 11 → (∃ s, v = .tuple #[.agg #[s], .int .i64 0] ∧ OWN (pb + 1 + 1) W s P)) ∧ (ix = 12 → (∃ s, v = .tuple #[.agg #[s], .int .i64 0] ∧ OWN (pb + 1 + 1) W s P)) ∧ (ix = 13 → (∃ s, v = .agg #[s] ∧ OWN (pb + 1 + 1) W s P)) ∧ (ix ≠ 11 → ix ≠ 12 → ix ≠ 13 → v = ([.agg #[.slice ap p.length cp], .slice (some ⟨g, off, none⟩) L.length lcap, .int .i64 i, .pointer (some ⟨g, off + i * 18, none⟩), .pointer (some ⟨g, off + i * 18, none⟩), .agg A.toArray, .slice (some ⟨g, off, none⟩) L.length lcap, .int .i64 i, .pointer (some ⟨g, off + i * 18, none⟩), .pointer (some ⟨g, off + i * 18 + 16, none⟩), .int .u64 tm, undef, undef, undef, .int .i64 0, undef] : List Value).getD ix undef)) 15 (CO pb (pb + 1 + 1) wr P) (GrT pb) (by kernel_rfl) (by kernel_rfl) (fun i v W W' h hb => ⟨fun e => by obtain ⟨s, h1, h2⟩ := h.1 e; exact ⟨s, h1, OWN.gr h2 hb (by omega)⟩, fun e => by obtain ⟨s, h1, h2⟩ := h.2.1 e; exact ⟨s, h1, OWN.gr h2 hb (by omega)⟩, fun e => by obtain ⟨s, h1, h2⟩ := h.2.2.1 e; exact ⟨s, h1, OWN.gr h2 hb (by omega)⟩, h.2.2.2⟩) ((Below.refl _ _).drew) (by omega) ?_ ?_
          · refine ⟨?_, ?_, ?_, ?_, ?_, ?_, ?_, ?_, ?_, ?_, ?_, ?_, ?_, ?_, ?_, ?_, trivial⟩
            · intro ρ vals W b hb hC hd ht hk hg hf
              obtain rfl : b = false := hb (.inr ⟨_, rfl, by kernel_rfl⟩)
              have hB : Below wr.heap.size wr W := hC
              clear hb
              have e8 := ht 8
              rw [evalS_old (by kernel_rfl)] at e8
              clear ht hd
              have q := (HJ.out.1.rp.below hB HJ.out.1.rp.lt).cell 0
              simp only [List.getElem?_cons_zero] at q
              unfold StepX
              go_simp
              first | exact GrT.refl _ _ | exact ⟨hC, GrT.refl _ _⟩
            · intro ρ vals W b hb hC hd ht hk hg hf
              obtain rfl : b = false := hb (.inr ⟨_, rfl, by kernel_rfl⟩)
              have hB : Below wr.heap.size wr W := hC
              clear hb
              have e0 := ht 0
              rw [evalS_old (by kernel_rfl)] at e0
              clear ht hd
              unfold StepX
              go_simp
              first | exact GrT.refl _ _ | exact ⟨hC, GrT.refl _ _⟩
            · intro ρ vals W b hb hC hd ht hk hg hf
              obtain rfl : b = false := hb (.inr ⟨_, rfl, by kernel_rfl⟩)
              have hB : Below wr.heap.size wr W := hC
              clear hb
              have e10 := ht 10
              rw [evalS_old (by kernel_rfl)] at e10
              clear ht hd
              unfold StepX
              go_simp
              first | exact GrT.refl _ _ | exact ⟨hC, GrT.refl _ _⟩
            · intro ρ vals W b hb hC hd ht hk hg hf
              obtain rfl : b = false := hb (.inr ⟨_, rfl, by kernel_rfl⟩)
              have hB : Below wr.heap.size wr W := hC
              clear hb
              have d1 := (hd 1 (by kernel_rfl)).2.2.2 (by decide) (by decide) (by decide)
              have e42 := ht 42
              rw [evalS_tmp (i := 1) (by kernel_rfl), d1] at e42
              have d2 := (hd 2 (by kernel_rfl)).2.2.2 (by decide) (by decide) (by decide)
              have e43 := ht 43
              rw [evalS_tmp (i := 2) (by kernel_rfl), d2] at e43
              clear ht hd d1 d2
              unfold StepX
              go_simp
              first | exact GrT.refl _ _ | exact ⟨hC, GrT.refl _ _⟩
            · intro ρ vals W b hb hC hd ht hk hg hf
              obtain rfl : b = false := hb (.inr ⟨_, rfl, by kernel_rfl⟩)
              have hB : Below wr.heap.size wr W := hC
              clear hb
              have d3 := (hd 3 (by kernel_rfl)).2.2.2 (by decide) (by decide) (by decide)
              have e44 := ht 44
              rw [evalS_tmp (i := 3) (by kernel_rfl), d3] at e44
              clear ht hd d3
              unfold StepX
              go_simp
              first | exact GrT.refl _ _ | exact ⟨hC, GrT.refl _ _⟩
            · intro ρ vals W b hb hC hd ht hk hg hf
              obtain rfl : b = false := hb (.inr ⟨_, rfl, by kernel_rfl⟩)
              have hB : Below wr.heap.size wr W := hC
              clear hb
              have d4 := (hd 4 (by kernel_rfl)).2.2.2 (by decide) (by decide) (by decide)
              have e45 := ht 45
              rw [evalS_tmp (i := 4) (by kernel_rfl), d4] at e45
              clear ht hd d4
              exact stepX_load 25 (.tmp 45) rfl g (off + i * 18) e45 A _ ((l2.out W hB).1) Tryz.underlying25 rfl (uid_size hul) ⟨fun h => absurd h (by decide), fun h => absurd h (by decide), fun h => absurd h (by decide), fun _ _ _ => rfl⟩ hC (GrT.refl _ _)
            · intro ρ vals W b hb hC hd ht hk hg hf
              obtain rfl : b = false := hb (.inr ⟨_, rfl, by kernel_rfl⟩)
              have hB : Below wr.heap.size wr W := hC
              clear hb
              have e0 := ht 0
              rw [evalS_old (by kernel_rfl)] at e0
              clear ht hd
              unfold StepX
              go_simp
              first | exact GrT.refl _ _ | exact ⟨hC, GrT.refl _ _⟩
            · intro ρ vals W b hb hC hd ht hk hg hf
              obtain rfl : b = false := hb (.inr ⟨_, rfl, by kernel_rfl⟩)
              have hB : Below wr.heap.size wr W := hC
              clear hb
              have e10 := ht 10
              rw [evalS_old (by kernel_rfl)] at e10
              clear ht hd
              unfold StepX
              go_simp
              first | exact GrT.refl _ _ | exact ⟨hC, GrT.refl _ _⟩
            · intro ρ vals W b hb hC hd ht hk hg hf
              obtain rfl : b = false := hb (.inr ⟨_, rfl, by kernel_rfl⟩)
              have hB : Below wr.heap.size wr W := hC
              clear hb
              have d6 := (hd 6 (by kernel_rfl)).2.2.2 (by decide) (by decide) (by decide)
              have e47 := ht 47
              rw [evalS_tmp (i := 6) (by kernel_rfl), d6] at e47
              have d7 := (hd 7 (by kernel_rfl)).2.2.2 (by decide) (by decide) (by decide)
              have e48 := ht 48
              rw [evalS_tmp (i := 7) (by kernel_rfl), d7] at e48
              clear ht hd d6 d7
              unfold StepX
              go_simp
              first | exact GrT.refl _ _ | exact ⟨hC, GrT.refl _ _⟩
            · intro ρ vals W b hb hC hd ht hk hg hf
              obtain rfl : b = false := hb (.inr ⟨_, rfl, by kernel_rfl⟩)
              have hB : Below wr.heap.size wr W := hC
              clear hb
              have d8 := (hd 8 (by kernel_rfl)).2.2.2 (by decide) (by decide) (by decide)
              have e49 := ht 49
              rw [evalS_tmp (i := 8) (by kernel_rfl), d8] at e49
              clear ht hd d8
              unfold StepX
              go_simp
              first | exact GrT.refl _ _ | exact ⟨hC, GrT.refl _ _⟩
            · intro ρ vals W b hb hC hd ht hk hg hf
              obtain rfl : b = false := hb (.inr ⟨_, rfl, by kernel_rfl⟩)
              have hB : Below wr.heap.size wr W := hC
              clear hb
              have d9 := (hd 9 (by kernel_rfl)).2.2.2 (by decide) (by decide) (by decide)
              have e50 := ht 50
              rw [evalS_tmp (i := 9) (by kernel_rfl), d9] at e50
              clear ht hd d9
              have q := (l2.out W hB).2
              unfold StepX
              go_simp
              first | exact GrT.refl _ _ | exact ⟨hC, GrT.refl _ _⟩
            · intro ρ vals W b hb hC hd ht hk hg hf
              obtain rfl : b = false := hb (.inr ⟨_, rfl, by kernel_rfl⟩)
              have hB : Below wr.heap.size wr W := hC
              clear hb
              have d0 := (hd 0 (by kernel_rfl)).2.2.2 (by decide) (by decide) (by decide)
              have e41 := ht 41
              rw [evalS_tmp (i := 0) (by kernel_rfl), d0] at e41
              have d5 := (hd 5 (by kernel_rfl)).2.2.2 (by decide) (by decide) (by decide)
              have e46 := ht 46
              rw [evalS_tmp (i := 5) (by kernel_rfl), d5] at e46
              have d10 := (hd 10 (by kernel_rfl)).2.2.2 (by decide) (by decide) (by decide)
              have e51 := ht 51
              rw [evalS_tmp (i := 10) (by kernel_rfl), d10] at e51
              clear ht hd d0 d5 d10
              unfold StepX
              go_simp
              refine (HSe.out W (OWN.below HJ.out.1.op hB).tbl).mono ?_
              rintro e W2 ⟨hb, s', er, rfl, h | ⟨h16, rfl, hO⟩⟩
              · exact absurd h.1 (by have := hdl; omega)
              · exact ⟨_, rfl, ⟨_, rfl, hO.weak (by have := hB.size; omega)⟩, hB.trans (hb.mono hB.size), GrT.of hb⟩
            · intro ρ vals W b hb hC hd ht hk hg hf
              obtain rfl : b = false := hb (.inr ⟨_, rfl, by kernel_rfl⟩)
              have hB : Below wr.heap.size wr W := hC
              clear hb
              obtain ⟨s, d11, o11⟩ := (hd 11 (by kernel_rfl)).1 rfl
              have e52 := ht 52
              rw [evalS_tmp (i := 11) (by kernel_rfl), d11] at e52
              clear ht hd d11
              unfold StepX
              go_simp
              first | exact GrT.refl _ _ | exact ⟨⟨_, rfl, o11⟩, hC, GrT.refl _ _⟩
            · intro ρ vals W b hb hC hd ht hk hg hf
              obtain rfl : b = false := hb (.inr ⟨_, rfl, by kernel_rfl⟩)
              have hB : Below wr.heap.size wr W := hC
              clear hb
              obtain ⟨s, d12, o12⟩ := (hd 12 (by kernel_rfl)).2.1 rfl
              have e40 := ht 40
              rw [evalS_tmp (i := 12) (by kernel_rfl), d12] at e40
              clear ht hd d12
              unfold StepX
              go_simp
              first | exact GrT.refl _ _ | exact ⟨⟨_, rfl, o12⟩, hC, GrT.refl _ _⟩
            · intro ρ vals W b hb hC hd ht hk hg hf
              clear hb
              obtain ⟨s, d12, o12⟩ := (hd 12 (by kernel_rfl)).2.1 rfl
              have e40 := ht 40
              rw [evalS_tmp (i := 12) (by kernel_rfl), d12] at e40
              clear ht hd d12
              unfold StepX
              go_simp
              first | exact GrT.refl _ _ | exact ⟨hC, GrT.refl _ _⟩
            · intro ρ vals W b hb hC hd ht hk hg hf
              obtain rfl : b = false := hb (.inl rfl)
              have hB : Below wr.heap.size wr W := hC
              clear hb
              have e8 := ht 8
              rw [evalS_old (by kernel_rfl)] at e8
              obtain ⟨s, d13, o13⟩ := (hd 13 (by kernel_rfl)).2.2.1 rfl
              have e53 := ht 53
              rw [evalS_tmp (i := 13) (by kernel_rfl), d13] at e53
              clear ht hd d13
              have RR := HJ.out.1.rp.below hB HJ.out.1.rp.lt
              have q := RR.cell 0
              have qf := RR.frozen 0
              have ql := RR.lt
              simp only [List.getElem?_cons_zero] at q
              obtain ⟨a6, c6, rfl⟩ := o13.tbl.slice
              unfold StepX
              go_simp
              exact ⟨⟨⟨_, RR.set 0 _, OWN.same (o13.weak (Nat.le_refl _)) (fun g hg => Below.heap_setCell _ ⟨pb, 0, none⟩ _ g (by show g ≠ pb; omega))⟩, grown_set hB _ trivial⟩, GrT.set _ _ _⟩
          · intro vals wb hC hR
            have r0 : vals 0 = .agg #[.slice ap p.length cp] := (hR 0 (by omega)).2.2.2 (by decide) (by decide) (by decide)
            have r1 : vals 1 = .slice (some ⟨g, off, none⟩) L.length lcap := (hR 1 (by omega)).2.2.2 (by decide) (by decide) (by decide)
            have r2 : vals 2 = .int .i64 i := (hR 2 (by omega)).2.2.2 (by decide) (by decide) (by decide)
            have r3 : vals 3 = .pointer (some ⟨g, off + i * 18, none⟩) := (hR 3 (by omega)).2.2.2 (by decide) (by decide) (by decide)
            have r4 : vals 4 = .pointer (some ⟨g, off + i * 18, none⟩) := (hR 4 (by omega)).2.2.2 (by decide) (by decide) (by decide)
            have r5 : vals 5 = .agg A.toArray := (hR 5 (by omega)).2.2.2 (by decide) (by decide) (by decide)
            have r6 : vals 6 = .slice (some ⟨g, off, none⟩) L.length lcap := (hR 6 (by omega)).2.2.2 (by decide) (by decide) (by decide)
            have r7 : vals 7 = .int .i64 i := (hR 7 (by omega)).2.2.2 (by decide) (by decide) (by decide)
            have r8 : vals 8 = .pointer (some ⟨g, off + i * 18, none⟩) := (hR 8 (by omega)).2.2.2 (by decide) (by decide) (by decide)
            have r9 : vals 9 = .pointer (some ⟨g, off + i * 18 + 16, none⟩) := (hR 9 (by omega)).2.2.2 (by decide) (by decide) (by decide)
            have r10 : vals 10 = .int .u64 tm := (hR 10 (by omega)).2.2.2 (by decide) (by decide) (by decide)
            obtain ⟨s11, r11, q11⟩ := (hR 11 (by omega)).1 rfl
            obtain ⟨s12, r12, q12⟩ := (hR 12 (by omega)).2.1 rfl
            obtain ⟨s13, r13, q13⟩ := (hR 13 (by omega)).2.2.1 rfl
            have r14 : vals 14 = .int .i64 0 := (hR 14 (by omega)).2.2.2 (by decide) (by decide) (by decide)
            have r15 : vals 15 = undef := (hR 15 (by omega)).2.2.2 (by decide) (by decide) (by decide)
            clear hR
            simp only [wpOps, List.take, putsS, Act.put, List.setIfInBounds_toArray, List.set_cons_zero, List.set_cons_succ, Nat.reduceAdd, r0, r1, r2, r3, r4, r5, r6, r7, r8, r9, r10, r11, r12, r13, r14, r15]
            clear r0 r1 r2 r3 r4 r5 r6 r7 r8 r9 r10 r11 r12 r13 r14 r15
            obtain ⟨⟨s6, hr6, ho6⟩, hgr⟩ := hC
            obtain ⟨a6, c6, rfl⟩ := ho6.tbl.slice
            have S6 := Lib.hid (HJ.out.1.newp hgr (by omega) (by omega) hr6 ho6)
            have hAg := Lib.hid HJ.out.2
            have hszb := hgr.size
            clear hgr hr6 ho6 q11 q12 q13 HSe l2 HJ hld
            go_wp2_with fail
            have hn0 : 0 < L.length := by omega
            obtain ⟨kk, hkk⟩ : ∃ kk, (i + by1) % L.length = kk := ⟨_, rfl⟩
            have hkl : kk < L.length := by rw [← hkk]; exact Nat.mod_lt _ hn0
            have hkI : ((i : Int) + (by1 : Int)) % (L.length : Int) = ((kk : Nat) : Int) := by rw [← hkk]; simp
            rw [hkI]
            have hklI : (kk : Int) < (L.length : Int) := by omega
            obtain ⟨g2, off2, he2, hg2, hrng2⟩ := HLC.out kk hkl
            have hwk2 := HWF.out _ (List.getElem_mem hkl)
            injection he2 with he2
            injection he2 with h1 h2
            subst h1 h2
            have hidx : ∀ h : (i + by1) % L.length < L.length, (L[(i + by1) % L.length]'h) = L[kk] := fun h => by simp only [hkk]
            have HIX := Lib.hid hidx
            obtain ⟨y, hy⟩ : ∃ y, L[kk] = y := ⟨_, rfl⟩
            rw [hy] at hrng2 hwk2 HIX
            have HKK := Lib.hid hkk
            clear hy hkk hkI hidx
            have hul2 := bv_len hwk2.1
            have htq := atQ_lt m y.uid
            obtain ⟨tq, htq2⟩ : ∃ tq, (atQ m y.uid).1 = tq := ⟨_, rfl⟩
            rw [htq2] at htq
            have hGq := hAg.out.1
            have hlq : q.length ≤ 15 := by have := hAg.out.2.1; omega
            have HSq := Lib.hid (fun W h => Set_any q hGq (by omega) ⟨tq, y.uid, htq, hwk2.1⟩ (.slice aq q.length cq) W h)
            unfold SetPost at HSq
            simp only at HSq
            have hdl2 : (dropQ q y.uid).length ≤ 15 := by have := dropQ_len q y.uid; omega
            have hzz : ∀ W' : World, (zeroValue 23).run Tryz.prog W' = .ok (.int .u64 0) W' := fun W' => by kernel_rfl
            have HLK : Hid (∀ W, Below wb.heap.size wb W → (Instr.lookup 51 (.map (some mb)) (.agg (y.uid.map bv).toArray) false).run Tryz.prog W = .ok (.int .u64 tq) W) := Lib.hid (fun W hW => by
              obtain ⟨c, hrun, hat, _⟩ := (ownsMap_belowT S6.out.mp hW).lookup_int uid_keyed Tryz.underlying51 Tryz.underlying23 (hzz W) (HK.out.is y.uid hwk2.1)
              rw [HM.out.1.at' y.uid hwk2.1, htq2] at hat
              injection hat with hat
              injection hat with _ hat
              rw [hrun, ← hat])
            obtain ⟨A2, hA2⟩ : ∃ A2, y.uid.map bv = A2 := ⟨_, rfl⟩
            obtain ⟨P2, hP2⟩ : ∃ P2, setQ q ⟨tq, y.uid, htq, hwk2.1⟩ = P2 := ⟨_, rfl⟩
            rw [hA2] at HLK HSq hul2
            rw [hP2] at HSq
            have hq2 := S6.out.rq.lt
            have l3 : Hid (∀ W, Below wb.heap.size wb W → W.rangeAt g (off + kk * 18) A2) := Lib.hid (fun W hW j v hj => by
              have hg' : g < wb.heap.size := by have := S6.out.be.size; omega
              rw [World.cell?_of_block (hW.block g hg'), World.cell?_of_block (S6.out.be.block g hg2)]
              refine hrng2 j v ?_
              unfold AN.cells
              rw [← hA2] at hj
              rw [List.getElem?_append_left (List.getElem?_eq_some_iff.1 hj).1]
              exact hj)
            have HP2 := Lib.hid (And.intro hP2 (And.intro hA2 htq2))
            clear hP2 hA2 htq2 hrng2
            refine wp_region_slotsXB (m := 18) [] hmx (fun ix v W => (ix = 13 → (∃ s, v = .tuple #[.agg #[s], .int .i64 0] ∧ OWN (pb + 1 + 1) W s P2)) ∧ (ix = 14 → (∃ s, v = .tuple #[.agg #[s], .int .i64 0] ∧ OWN (pb + 1 + 1) W s P2)) ∧ (ix = 15 → (∃ s, v = .agg #[s] ∧ OWN (pb + 1 + 1) W s P2)) ∧ (ix ≠ 13 → ix ≠ 14 → ix ≠ 15 → v = ([.agg #[.slice aq q.length cq], .slice (some ⟨g, off, none⟩) L.length lcap, .int .i64 kk, .pointer (some ⟨g, off + kk * 18, none⟩), .pointer (some ⟨g, off + kk * 18, none⟩), .agg A2.toArray, .map (some mb), .slice (some ⟨g, off, none⟩) L.length lcap, .int .i64 kk, .pointer (some ⟨g, off + kk * 18, none⟩), .pointer (some ⟨g, off + kk * 18, none⟩), .agg A2.toArray, .int .u64 tq, undef, undef, undef, .int .i64 0, undef] : List Value).getD ix undef)) 17 (CO (pb+1) (pb + 1 + 1) wb P2) (GrT (pb+1)) (by kernel_rfl) (by kernel_rfl) (fun i v W W' h hb => ⟨fun e => by obtain ⟨s, h1, h2⟩ := h.1 e; exact ⟨s, h1, OWN.gr h2 hb (by omega)⟩, fun e => by obtain ⟨s, h1, h2⟩ := h.2.1 e; exact ⟨s, h1, OWN.gr h2 hb (by omega)⟩, fun e => by obtain ⟨s, h1, h2⟩ := h.2.2.1 e; exact ⟨s, h1, OWN.gr h2 hb (by omega)⟩, h.2.2.2⟩) ((Below.refl _ _).drew) (by omega) ?_ ?_
            · refine ⟨?_, ?_, ?_, ?_, ?_, ?_, ?_, ?_, ?_, ?_, ?_, ?_, ?_, ?_, ?_, ?_, ?_, ?_, trivial⟩
              · intro ρ vals W b hb hC hd ht hk hg hf
                obtain rfl : b = false := hb (.inr ⟨_, rfl, by kernel_rfl⟩)
                have hB : Below wb.heap.size wb W := hC
                clear hb
                have e9 := ht 9
                rw [evalS_old (by kernel_rfl)] at e9
                clear ht hd
                have q := (S6.out.rq.below hB S6.out.rq.lt).cell 0
                simp only [List.getElem?_cons_zero] at q
                unfold StepX
                go_simp
                first | exact GrT.refl _ _ | exact ⟨hC, GrT.refl _ _⟩
              · intro ρ vals W b hb hC hd ht hk hg hf
                obtain rfl : b = false := hb (.inr ⟨_, rfl, by kernel_rfl⟩)
                have hB : Below wb.heap.size wb W := hC
                clear hb
                have e0 := ht 0
                rw [evalS_old (by kernel_rfl)] at e0
                clear ht hd
                unfold StepX
                go_simp
                first | exact GrT.refl _ _ | exact ⟨hC, GrT.refl _ _⟩
              · intro ρ vals W b hb hC hd ht hk hg hf
                obtain rfl : b = false := hb (.inr ⟨_, rfl, by kernel_rfl⟩)
                have hB : Below wb.heap.size wb W := hC
                clear hb
                have e11 := ht 11
                rw [evalS_old (by kernel_rfl)] at e11
                clear ht hd
                unfold StepX
                go_simp
                first | exact GrT.refl _ _ | exact ⟨hC, GrT.refl _ _⟩
              · intro ρ vals W b hb hC hd ht hk hg hf
                obtain rfl : b = false := hb (.inr ⟨_, rfl, by kernel_rfl⟩)
                have hB : Below wb.heap.size wb W := hC
                clear hb
                have d1 := (hd 1 (by kernel_rfl)).2.2.2 (by decide) (by decide) (by decide)
                have e64 := ht 64
                rw [evalS_tmp (i := 1) (by kernel_rfl), d1] at e64
                have d2 := (hd 2 (by kernel_rfl)).2.2.2 (by decide) (by decide) (by decide)
                have e65 := ht 65
                rw [evalS_tmp (i := 2) (by kernel_rfl), d2] at e65
                clear ht hd d1 d2
                unfold StepX
                go_simp
                first | exact GrT.refl _ _ | exact ⟨hC, GrT.refl _ _⟩
              · intro ρ vals W b hb hC hd ht hk hg hf
                obtain rfl : b = false := hb (.inr ⟨_, rfl, by kernel_rfl⟩)
                have hB : Below wb.heap.size wb W := hC
                clear hb
                have d3 := (hd 3 (by kernel_rfl)).2.2.2 (by decide) (by decide) (by decide)
                have e66 := ht 66
                rw [evalS_tmp (i := 3) (by kernel_rfl), d3] at e66
                clear ht hd d3
                unfold StepX
                go_simp
                first | exact GrT.refl _ _ | exact ⟨hC, GrT.refl _ _⟩
              · intro ρ vals W b hb hC hd ht hk hg hf
                obtain rfl : b = false := hb (.inr ⟨_, rfl, by kernel_rfl⟩)
                have hB : Below wb.heap.size wb W := hC
                clear hb
                have d4 := (hd 4 (by kernel_rfl)).2.2.2 (by decide) (by decide) (by decide)
                have e67 := ht 67
                rw [evalS_tmp (i := 4) (by kernel_rfl), d4] at e67
                clear ht hd d4
                exact stepX_load 25 (.tmp 67) rfl g (off + kk * 18) e67 A2 _ (l3.out W hB) Tryz.underlying25 rfl (uid_size hul2) ⟨fun h => absurd h (by decide), fun h => absurd h (by decide), fun h => absurd h (by decide), fun _ _ _ => rfl⟩ hC (GrT.refl _ _)
              · intro ρ vals W b hb hC hd ht hk hg hf
                obtain rfl : b = false := hb (.inr ⟨_, rfl, by kernel_rfl⟩)
                have hB : Below wb.heap.size wb W := hC
                clear hb
                have e5 := ht 5
                rw [evalS_old (by kernel_rfl)] at e5
                clear ht hd
                unfold StepX
                go_simp
                first | exact GrT.refl _ _ | exact ⟨hC, GrT.refl _ _⟩
              · intro ρ vals W b hb hC hd ht hk hg hf
                obtain rfl : b = false := hb (.inr ⟨_, rfl, by kernel_rfl⟩)
                have hB : Below wb.heap.size wb W := hC
                clear hb
                have e0 := ht 0
                rw [evalS_old (by kernel_rfl)] at e0
                clear ht hd
                unfold StepX
                go_simp
                first | exact GrT.refl _ _ | exact ⟨hC, GrT.refl _ _⟩
              · intro ρ vals W b hb hC hd ht hk hg hf
                obtain rfl : b = false := hb (.inr ⟨_, rfl, by kernel_rfl⟩)
                have hB : Below wb.heap.size wb W := hC
                clear hb
                have e11 := ht 11
                rw [evalS_old (by kernel_rfl)] at e11
                clear ht hd
                unfold StepX
                go_simp
                first | exact GrT.refl _ _ | exact ⟨hC, GrT.refl _ _⟩
              · intro ρ vals W b hb hC hd ht hk hg hf
                obtain rfl : b = false := hb (.inr ⟨_, rfl, by kernel_rfl⟩)
                have hB : Below wb.heap.size wb W := hC
                clear hb
                have d7 := (hd 7 (by kernel_rfl)).2.2.2 (by decide) (by decide) (by decide)
                have e70 := ht 70
                rw [evalS_tmp (i := 7) (by kernel_rfl), d7] at e70
                have d8 := (hd 8 (by kernel_rfl)).2.2.2 (by decide) (by decide) (by decide)
                have e71 := ht 71
                rw [evalS_tmp (i := 8) (by kernel_rfl), d8] at e71
                clear ht hd d7 d8
                unfold StepX
                go_simp
                first | exact GrT.refl _ _ | exact ⟨hC, GrT.refl _ _⟩
              · intro ρ vals W b hb hC hd ht hk hg hf
                obtain rfl : b = false := hb (.inr ⟨_, rfl, by kernel_rfl⟩)
                have hB : Below wb.heap.size wb W := hC
                clear hb
                have d9 := (hd 9 (by kernel_rfl)).2.2.2 (by decide) (by decide) (by decide)
                have e72 := ht 72
                rw [evalS_tmp (i := 9) (by kernel_rfl), d9] at e72
                clear ht hd d9
                unfold StepX
                go_simp
                first | exact GrT.refl _ _ | exact ⟨hC, GrT.refl _ _⟩
              · intro ρ vals W b hb hC hd ht hk hg hf
                obtain rfl : b = false := hb (.inr ⟨_, rfl, by kernel_rfl⟩)
                have hB : Below wb.heap.size wb W := hC
                clear hb
                have d10 := (hd 10 (by kernel_rfl)).2.2.2 (by decide) (by decide) (by decide)
                have e73 := ht 73
                rw [evalS_tmp (i := 10) (by kernel_rfl), d10] at e73
                clear ht hd d10
                exact stepX_load 25 (.tmp 73) rfl g (off + kk * 18) e73 A2 _ (l3.out W hB) Tryz.underlying25 rfl (uid_size hul2) ⟨fun h => absurd h (by decide), fun h => absurd h (by decide), fun h => absurd h (by decide), fun _ _ _ => rfl⟩ hC (GrT.refl _ _)
              · intro ρ vals W b hb hC hd ht hk hg hf
                obtain rfl : b = false := hb (.inr ⟨_, rfl, by kernel_rfl⟩)
                have hB : Below wb.heap.size wb W := hC
                clear hb
                have d6 := (hd 6 (by kernel_rfl)).2.2.2 (by decide) (by decide) (by decide)
                have e69 := ht 69
                rw [evalS_tmp (i := 6) (by kernel_rfl), d6] at e69
                have d11 := (hd 11 (by kernel_rfl)).2.2.2 (by decide) (by decide) (by decide)
                have e74 := ht 74
                rw [evalS_tmp (i := 11) (by kernel_rfl), d11] at e74
                clear ht hd d6 d11
                have q := HLK.out W hB
                unfold StepX
                go_simp
                first | exact GrT.refl _ _ | exact ⟨hC, GrT.refl _ _⟩
              · intro ρ vals W b hb hC hd ht hk hg hf
                obtain rfl : b = false := hb (.inr ⟨_, rfl, by kernel_rfl⟩)
                have hB : Below wb.heap.size wb W := hC
                clear hb
                have d0 := (hd 0 (by kernel_rfl)).2.2.2 (by decide) (by decide) (by decide)
                have e63 := ht 63
                rw [evalS_tmp (i := 0) (by kernel_rfl), d0] at e63
                have d5 := (hd 5 (by kernel_rfl)).2.2.2 (by decide) (by decide) (by decide)
                have e68 := ht 68
                rw [evalS_tmp (i := 5) (by kernel_rfl), d5] at e68
                have d12 := (hd 12 (by kernel_rfl)).2.2.2 (by decide) (by decide) (by decide)
                have e75 := ht 75
                rw [evalS_tmp (i := 12) (by kernel_rfl), d12] at e75
                clear ht hd d0 d5 d12
                unfold StepX
                go_simp
                refine (HSq.out W (OWN.below S6.out.oq hB).tbl).mono ?_
                rintro e W2 ⟨hb, s', er, rfl, h | ⟨h16, rfl, hO⟩⟩
                · exact absurd h.1 (by have := hdl2; omega)
                · exact ⟨_, rfl, ⟨_, rfl, hO.weak (by have := hB.size; omega)⟩, hB.trans (hb.mono hB.size), GrT.of hb⟩
              · intro ρ vals W b hb hC hd ht hk hg hf
                obtain rfl : b = false := hb (.inr ⟨_, rfl, by kernel_rfl⟩)
                have hB : Below wb.heap.size wb W := hC
                clear hb
                obtain ⟨s, d13, o13⟩ := (hd 13 (by kernel_rfl)).1 rfl
                have e76 := ht 76
                rw [evalS_tmp (i := 13) (by kernel_rfl), d13] at e76
                clear ht hd d13
                unfold StepX
                go_simp
                first | exact GrT.refl _ _ | exact ⟨⟨_, rfl, o13⟩, hC, GrT.refl _ _⟩
              · intro ρ vals W b hb hC hd ht hk hg hf
                obtain rfl : b = false := hb (.inr ⟨_, rfl, by kernel_rfl⟩)
                have hB : Below wb.heap.size wb W := hC
                clear hb
                obtain ⟨s, d14, o14⟩ := (hd 14 (by kernel_rfl)).2.1 rfl
                have e62 := ht 62
                rw [evalS_tmp (i := 14) (by kernel_rfl), d14] at e62
                clear ht hd d14
                unfold StepX
                go_simp
                first | exact GrT.refl _ _ | exact ⟨⟨_, rfl, o14⟩, hC, GrT.refl _ _⟩
              · intro ρ vals W b hb hC hd ht hk hg hf
                clear hb
                obtain ⟨s, d14, o14⟩ := (hd 14 (by kernel_rfl)).2.1 rfl
                have e62 := ht 62
                rw [evalS_tmp (i := 14) (by kernel_rfl), d14] at e62
                clear ht hd d14
                unfold StepX
                go_simp
                first | exact GrT.refl _ _ | exact ⟨hC, GrT.refl _ _⟩
              · intro ρ vals W b hb hC hd ht hk hg hf
                obtain rfl : b = false := hb (.inl rfl)
                have hB : Below wb.heap.size wb W := hC
                clear hb
                have e9 := ht 9
                rw [evalS_old (by kernel_rfl)] at e9
                obtain ⟨s, d15, o15⟩ := (hd 15 (by kernel_rfl)).2.2.1 rfl
                have e77 := ht 77
                rw [evalS_tmp (i := 15) (by kernel_rfl), d15] at e77
                clear ht hd d15
                have RR := S6.out.rq.below hB S6.out.rq.lt
                have q := RR.cell 0
                have qf := RR.frozen 0
                have ql := RR.lt
                simp only [List.getElem?_cons_zero] at q
                obtain ⟨a6, c6, rfl⟩ := o15.tbl.slice
                unfold StepX
                go_simp
                exact ⟨⟨⟨_, RR.set 0 _, OWN.same (o15.weak (Nat.le_refl _)) (fun g hg => Below.heap_setCell _ ⟨(pb + 1), 0, none⟩ _ g (by show g ≠ (pb + 1); omega))⟩, grown_set hB _ trivial⟩, GrT.set _ _ _⟩
            · intro vals wc hC hR
              have r0 : vals 0 = .agg #[.slice aq q.length cq] := (hR 0 (by omega)).2.2.2 (by decide) (by decide) (by decide)
              have r1 : vals 1 = .slice (some ⟨g, off, none⟩) L.length lcap := (hR 1 (by omega)).2.2.2 (by decide) (by decide) (by decide)
              have r2 : vals 2 = .int .i64 kk := (hR 2 (by omega)).2.2.2 (by decide) (by decide) (by decide)
              have r3 : vals 3 = .pointer (some ⟨g, off + kk * 18, none⟩) := (hR 3 (by omega)).2.2.2 (by decide) (by decide) (by decide)
              have r4 : vals 4 = .pointer (some ⟨g, off + kk * 18, none⟩) := (hR 4 (by omega)).2.2.2 (by decide) (by decide) (by decide)
              have r5 : vals 5 = .agg A2.toArray := (hR 5 (by omega)).2.2.2 (by decide) (by decide) (by decide)
              have r6 : vals 6 = .map (some mb) := (hR 6 (by omega)).2.2.2 (by decide) (by decide) (by decide)
              have r7 : vals 7 = .slice (some ⟨g, off, none⟩) L.length lcap := (hR 7 (by omega)).2.2.2 (by decide) (by decide) (by decide)
              have r8 : vals 8 = .int .i64 kk := (hR 8 (by omega)).2.2.2 (by decide) (by decide) (by decide)
              have r9 : vals 9 = .pointer (some ⟨g, off + kk * 18, none⟩) := (hR 9 (by omega)).2.2.2 (by decide) (by decide) (by decide)
              have r10 : vals 10 = .pointer (some ⟨g, off + kk * 18, none⟩) := (hR 10 (by omega)).2.2.2 (by decide) (by decide) (by decide)
              have r11 : vals 11 = .agg A2.toArray := (hR 11 (by omega)).2.2.2 (by decide) (by decide) (by decide)
              have r12 : vals 12 = .int .u64 tq := (hR 12 (by omega)).2.2.2 (by decide) (by decide) (by decide)
              obtain ⟨s13, r13, q13⟩ := (hR 13 (by omega)).1 rfl
              obtain ⟨s14, r14, q14⟩ := (hR 14 (by omega)).2.1 rfl
              obtain ⟨s15, r15, q15⟩ := (hR 15 (by omega)).2.2.1 rfl
              have r16 : vals 16 = .int .i64 0 := (hR 16 (by omega)).2.2.2 (by decide) (by decide) (by decide)
              have r17 : vals 17 = undef := (hR 17 (by omega)).2.2.2 (by decide) (by decide) (by decide)
              clear hR
              simp only [wpOps, List.take, putsS, Act.put, List.setIfInBounds_toArray, List.set_cons_zero, List.set_cons_succ, Nat.reduceAdd, r0, r1, r2, r3, r4, r5, r6, r7, r8, r9, r10, r11, r12, r13, r14, r15, r16, r17]
              clear r0 r1 r2 r3 r4 r5 r6 r7 r8 r9 r10 r11 r12 r13 r14 r15 r16 r17
              obtain ⟨⟨s7, hr7, ho7⟩, hgr⟩ := hC
              obtain ⟨a7, c7, rfl⟩ := ho7.tbl.slice
              have S7 := Lib.hid (S6.out.newq hgr (by omega) (by omega) hr7 ho7)
              clear hgr hr7 ho7 q13 q14 q15 HSq l3 HLK S6
              go_wp2_with fail
              go_roundw
              case rel =>
                have hS := S7.out
                have e1 : setsF L (i + 1) = P := by rw [hst.out, hen.out, hHP.out.1]
                rw [← e1] at hS
                have hA := Again.step hAg.out (by rw [HKK.out]; exact hkl) (e := ⟨tq, y.uid, htq, hwk2.1⟩) (by rw [HIX.out]) HP2.out.2.2.symm
                rw [HP2.out.1] at hA
                exact ⟨i + 1, by go_num, by omega, _, _, _, Lib.hid ⟨hS, hA⟩⟩
              case measure => simp [intOf]; omega
        · have hgeI : ¬ (i : Int) < (L.length : Int) := by omega
          have hin : i = L.length := by omega
          subst hin
          rw [HMM.out] at HJ
          have hmq : m = q := again_first HM.out.2 HJ.out.2
          subst hmq
          have hlm := HM.out.2.2.1
          obtain ⟨ap, cp, rfl⟩ := HJ.out.1.op.tbl.slice
          obtain ⟨aq, cq, rfl⟩ := HJ.out.1.oq.tbl.slice
          have HSm := Lib.hid (fun W h h' => Same_any m m (by omega) (.slice ap m.length cp) (.slice aq m.length cq) W h h')
          rw [decide_eq_true (rfl : m = m)] at HSm
          have HLn := Lib.hid (fun W h => Len_any m (.slice ap m.length cp) W h)
          have p5 := HJ.out.1.rp.cell 0
          have q5 := HJ.out.1.rq.cell 0
          simp only [List.getElem?_cons_zero] at p5 q5
          go_wp2_with fail
          refine (HSm.out _ HJ.out.1.op.tbl HJ.out.1.oq.tbl).mono ?_
          rintro e w8 ⟨rfl, hb8⟩
          have S8 := Lib.hid (HJ.out.1.below hb8)
          have p8 := S8.out.rp.cell 0
          simp only [List.getElem?_cons_zero] at p8
          clear hb8 p5 q5
          go_wp2_with fail
          refine (HLn.out _ S8.out.op.tbl).mono ?_
          rintro e w9 ⟨rfl, hb9⟩
          have S9 := Lib.hid (S8.out.below hb9)
          have hlen := World.ownsMap.len S9.out.mp Tryz.underlying51 3
          rw [HM.out.1.size] at hlen
          have hlen2 := fun ty => World.ownsMap.len S9.out.mp Tryz.underlying51 ty
          rw [HM.out.1.size] at hlen2
          clear hb9 p8 hlen
          go_wp2_with fail
          go_ret
          exact ⟨rfl, S9.out.be⟩
theorem TimerOrder_walkI (s0 : Value) (L : List AN) (a1 : Int) (w : World) (hL : InA w s0 L) (hLn : L.length ≤ 9223372036854775807) (hwf : ∀ r ∈ L, r.wf) (w1 : (Lit.int .u8 a1).wf = true) (hG : G w) :
    Calls Tryz.prog 4 #[s0, .int .u8 a1] w fun e w' => e = .returned (.bool true) ∧ Below w.heap.size w w' := by
  have r2 : 0 ≤ a1 ∧ a1 ≤ 255 := by simpa [Lit.wf, IntKind.min, IntKind.max, IntKind.signed, IntKind.bits] using w1
  obtain ⟨n2, rfl⟩ := Int.eq_ofNat_of_zero_le r2.1
  exact TimerOrder_walk s0 L n2 w hL hwf (by omega) hG
end Go.Proofs.YtoampocobmeebaaGreatDoor.Tm

namespace Go.Proofs.YtoampocobmeebaaGreatDoor
open Go.RowKit
set_option linter.unusedVariables false

theorem G_of_tab {W : World} (h : Lib.TabIs Tryz.prog W "cashier/sha.starts" .u32 [1779033703, 3144134277, 1013904242, 2773480762, 1359893119, 2600822924, 528734635, 1541459225]) : G W := by
  unfold Lib.TabIs World.var? at h
  rw [show Tryz.prog.globalNamed "cashier/sha.starts" = some 1 by kernel_rfl] at h
  simp only [Option.bind_some] at h
  split at h
  · rename_i cs t fr hq
    refine ⟨t, fr, ?_⟩
    rw [hq]
    obtain rfl := Option.some.inj h
    rfl
  · cases h
theorem G_of_laid {W : World} (h : laidMetH Tryz.prog [("cashier/sha.starts", Rows.laid_cashier_sha_starts)] W) : G W :=
  G_of_tab (Lib.tabIs_of_head (g := 1) (t := 122) (e := 121) (n := 8) (rest := []) (by kernel_rfl) (by kernel_rfl) Tryz.underlying122 Tryz.underlying121 (by kernel_rfl) (by kernel_rfl) h)
end Go.Proofs.YtoampocobmeebaaGreatDoor

namespace Go.Proofs.YtoampocobmeebaaGreatDoor
open Go.RowKit
set_option linter.unusedVariables false

theorem laidMet_tail {P : Program} {x : String × DataW Unit} {r : List (String × DataW Unit)} {w : World} (h : laidMet P (x :: r) w) : laidMet P r w := by
  obtain ⟨ps, hv, hn, hc⟩ := h
  obtain ⟨n, d⟩ := x
  obtain ⟨g, t, cs, fuel, p, q, _, _, _, _, hq, rfl⟩ := hv
  exact ⟨q, hq, (List.nodup_append.1 hn).2.1, fun b off hb => hc b off (List.mem_append.2 (.inr hb))⟩
theorem G_of_laid4 {W : World} (h : laidMetH Tryz.prog [("math/bits.deBruijn32tab", Rows.laid_math_bits_deBruijn32tab), ("math/bits.deBruijn64tab", Rows.laid_math_bits_deBruijn64tab), ("internal/strconv.uint64pow10", Rows.laid_internal_strconv_uint64pow10), ("cashier/sha.starts", Rows.laid_cashier_sha_starts)] W) : G W :=
  G_of_tab (Lib.tabIs_of_head (g := 1) (t := 122) (e := 121) (n := 8) (rest := []) (by kernel_rfl) (by kernel_rfl) Tryz.underlying122 Tryz.underlying121 (by kernel_rfl) (by kernel_rfl) (laidMet_tail (laidMet_tail (laidMet_tail h))))
end Go.Proofs.YtoampocobmeebaaGreatDoor

namespace Go.Proofs.YtoampocobmeebaaGreatDoor.timerOrder
open Go.ChangeShapes Go.WideShapes Go.ChangeAt Go.RowKit
open Go.ChangeMaps (open_string shut_string)
open Go.Proofs.YtoampocobmeebaaGreatDoor.Tm
set_option linter.unusedVariables false

theorem own : ownKnob Tryz.prog.godebug = none := by kernel_rfl
theorem laidOut : laidOutB Tryz.prog = true := by kernel_rfl

theorem door_met (os : Os) (args : Array Value) : laidMetH Tryz.prog Rows.timerOrderRow.laid ((World.doorLaid Tryz.prog 4000 os).forCall (fun _ _ => 0) ⟨#[], args, []⟩).memory :=
  laidMetH_of_parts3 (fuel := 8) (laidMet_of_run' 8 (by kernel_rfl) (by kernel_rfl)) (by kernel_rfl) (by kernel_rfl)

set_option maxRecDepth 100000 in
set_option maxHeartbeats 4000000 in
theorem lifted (os : Os) (started : os.Started) (H : Type) (enc : TypeId × Value → H) :
    ReturnsInHanded {} Tryz.checked os 4 .any (fun w args => (Rows.timerOrderSpec.pre enc Tryz.prog Tryz.f4 Rows.timerOrderRow.domain false w args ∧ laidMetH Tryz.prog Rows.timerOrderRow.laid w) ∧ sizedMet enc Tryz.prog Tryz.f4 (OpenSpec.ofChange Rows.timerOrderSpec) false w args) (Rows.timerOrderSpec.post enc Tryz.prog Tryz.f4 false true false false) := by
  refine returnsInHanded_of_change_and (C := Tryz.checked) (X := fun w _ => laidMetH Tryz.prog Rows.timerOrderRow.laid w) (fun _ _ _ hh h => h.of_heap hh) own started (by kernel_rfl) Tryz.func4
    (ChangeSpec.witness_shaped (enc := enc) (C := Tryz.checked) (os := os) (X := fun w _ => laidMetH Tryz.prog Rows.timerOrderRow.laid w) false (World.doorLaid Tryz.prog 4000 os) #[.slice none 0 0, .int .u8 0] 8 rfl (World.shaped_of_RefB (by kernel_rfl) (by kernel_rfl)) (by kernel_rfl) (by kernel_rfl) (by kernel_rfl) (door_met os _)) ?_
  intro W base args ds gs before hval0 hW hcnd hsz0 hX1 hX2
  have hsz : (DataW.weightsEach Tryz.prog (Tryz.f4.params.toList ++ Rows.timerOrderSpec.plain.varTypes Tryz.prog) (ds ++ gs)).all (· ≤ reachBytes) = true := hsz0
  have hval : ∀ (j : Nat) t v, Tryz.f4.params[j]? = some t → args[j]? = some v → Value.okWide Tryz.prog W .any base t v := hval0
  have hW' := hW
  obtain ⟨p, q, hA0, hV, rfl, hfz, hnd⟩ := hW
  have hA : DataW.TrodAll enc Tryz.prog W 0 (fun _ => true) true Tryz.f4.params.toList args.toList ds p := hA0
  rw [Tryz.params4] at hA hval hsz
  obtain ⟨v0, vs0, d0, ds0, p0, q0, hargs, rfl, rfl, h0, r0⟩ := trodAll_cons hA
  obtain ⟨v1, vs1, d1, ds1, p1, q1, rfl, rfl, rfl, h1, r1⟩ := trodAll_cons r0
  obtain ⟨rfl, rfl, rfl⟩ := trodAll_nil r1
  obtain rfl : args = #[v0, v1] := by cases args; simp_all
  obtain ⟨rfl, rfl⟩ := trodVars_none hV
  obtain ⟨x0, len0, cap0, rfl⟩ := okWide_slice Tryz.underlying22 (hval 0 22 v0 rfl rfl)
  have k0 := h0
  have lt0 : ∀ x ∈ p0, x.block < W.heap.size := by obtain ⟨m, hm⟩ := k0; exact DataW.trod_lt m _ _ _ hm
  obtain ⟨l0, w0, m0, n0⟩ : ∃ l, InA W (.slice x0 len0 cap0) l ∧ (∀ r ∈ l, r.wf) ∧ l.length ≤ 9223372036854775807 := by
    obtain ⟨fuel, hf⟩ := h0
    exact acts24_open hf
  obtain ⟨a1, rfl, rfl, rfl, w1⟩ := open_int Tryz.underlying5 (hval 1 5 v1 rfl rfl) h1
  clear hA0 hval0 hsz hsz0
  simp only [List.append_nil] at hW'
  refine (TimerOrder_walkI (.slice x0 len0 cap0) l0 a1 W w0 n0 m0 w1 (G_of_laid4 hX1)).mono fun e W' ⟨he, bel⟩ => ?_
  subst he
  exact ⟨_, rfl, _, _, _, [], _, [], hW', trodAll_mk1 (shut_bool Tryz.underlying4 _), (trodAll_cons_mk (Below.trod laidOut (by kernel_rfl) (of_decide_eq_true (by kernel_rfl)) k0 bel lt0) (trodAll_cons_mk (shut_int Tryz.underlying5 w1) trodAll_mk0)), rfl, bel.frame _, fun h => by cases h⟩

theorem over : Rows.timerOrderRow.holds Tryz.pinned (OpenSpec.ofChange Rows.timerOrderSpec) :=
  OpenClaim.holds_of_wide 4 Tryz.f4 rfl rfl rfl rfl rfl rfl rfl ⟨rfl, rfl, rfl, rfl, rfl⟩ rfl rfl rfl rfl rfl (by kernel_rfl) Tryz.func4 (by kernel_rfl)
    (of_decide_eq_true (by kernel_rfl)) (by unfold Func.isWrapper; first | (rw [if_pos (by decide +kernel)]; kernel_rfl) | (rw [if_neg (by decide +kernel)]; exact ⟨rfl, rfl⟩))
    (fun os started H enc _ => lifted os started H enc)

theorem proved : Rows.TimerOrderCardSaid :=
  Claim7.holds_tied_plain_at .later [] [.data, .data, .data, .data] true (true, "6f44ac039759dcc05335af8c4f2505606fe73a53d5d078bf624509f7633125f8") false
    over (fun _ h => by cases h) (by kernel_rfl) (fun _ h => by cases h) timerOrder_row_tie rfl ⟨rfl, rfl⟩ (by kernel_rfl) rfl
    (fun f fn hf hfn => by
      obtain rfl : f = 4 := Option.some.inj ((show Tryz.prog.funcNamed "cashier/cashierlaw24.TimerOrder" = some 4 by kernel_rfl).symm.trans hf) |>.symm
      obtain rfl : fn = Tryz.f4 := (Option.some.inj (Tryz.func4.symm.trans hfn)).symm
      exact ⟨by kernel_rfl, fun j t ht => by
        rw [Tryz.params4] at ht
        have hm : t ∈ [22, 5] := by simpa using Array.mem_of_getElem? ht
        have hall : ([22, 5].all fun u => !Tryz.prog.wantsStandIn u) = true := by kernel_rfl
        exact (show Tryz.prog.wantsStandIn t = false by simpa using List.all_eq_true.1 hall t hm)⟩)
    (by kernel_rfl)

end Go.Proofs.YtoampocobmeebaaGreatDoor.timerOrder
