/- The statement of CatalogPlaces: whatever comes in, the law answers true, and what came in reads as it did. (In one text with what it leans on: CatalogPlacesW, Laid8, LiftS, CatalogPlaces.) -/
import Derived.Lib.LaidTab
import Derived.SizedLaws
import Derived.Shelf.Vars
import Derived.LaidMore
import Derived.SevenTiedAt
import Derived.WalkKit
import Derived.ProofKit
import Derived.OpenShut
import Derived.ShutString
import Derived.Lay
import Derived.Stop.Joined
import Derived.Test.YtkjbfecnkfafpaaGreatDoorCatalogPlacesAll1
import Derived.Test.YtkjbfecnkfafpaaGreatDoorRows
import Derived.Test.YtkjbfecnkfafpaaGreatDoorCards
import Derived.Test.YtkjbfecnkfafpaaGreatDoorTie
namespace Go.Proofs.YtkjbfecnkfafpaaGreatDoor
open Go.RowKit
set_option linter.unusedVariables false
set_option linter.unusedSimpArgs false
attribute [local go_sem] Oper.semAt_some

theorem Of_in (n : Nat) (m : Int) (w : World) : CallsIn Fence.wide n Tryz.prog 18 #[.int .i64 m] w fun e w' => e = .returned (.func (.func 30) #[] #[.pointer (some ⟨w.heap.size, 0, none⟩)]) ∧ w' = w.alloc (.cells #[.int .i64 m] 3) := by
  refine callsIn_wide.2 ?_
  go_enter Tryz.func18, Tryz.ntmps18
  go_wp2
  go_ret
  exact ⟨rfl, rfl⟩

/-- What lay at the round's beginning lies as it lay, but for two boxes. -/
def KbP (rb nb : Nat) (W0 W : World) : Prop := W0.heap.size ≤ W.heap.size ∧ ∀ k, k < W0.heap.size → k ≠ rb → k ≠ nb → W.heap[k]? = W0.heap[k]?
theorem KbP.below {rb nb : Nat} {W0 W W' : World} (h : KbP rb nb W0 W) (hb : Below W.heap.size W W') : KbP rb nb W0 W' := ⟨Nat.le_trans h.1 hb.size, fun k hk h1 h2 => (hb.block k (Nat.lt_of_lt_of_le hk h.1)).trans (h.2 k hk h1 h2)⟩
/-- What stands within a round: the boxes, whether there was some. -/
structure StP (rb nb bi bf sb i np l : Nat) (rec : Loop) (f : FD) (v : Value) (w W0 : World) (s : Bool) (wr : World) : Prop where
  r0 : Row wr rb 4 [.bool false]
  r1 : Row wr nb 3 [.int .i64 ((np : Int) + 1)]
  r2 : Row wr bi 3 [.int .i64 i]
  r3 : Row wr bf 32 (fieldC f v)
  r4 : Row wr sb 4 [.bool s]
  kb : KbP rb nb W0 wr
  be : Below w.heap.size w wr
  lo : wr.heap[l]? = some (.loop rec)
theorem StP.grown {rb nb bi bf sb i np l : Nat} {rec : Loop} {f : FD} {v : Value} {w W0 : World} {s : Bool} {X Y : World} {row : Option Nat} {B : Nat} (h : StP rb nb bi bf sb i np l rec f v w W0 s X) (hg : X.grownBy Y row) (hr : ∀ r, row = some r → B ≤ r)
    (h0 : rb < B) (h1 : nb < B) (h2 : bi < B) (h3 : bf < B) (h4 : sb < B) (h5 : l < B) (h6 : W0.heap.size ≤ B) (h7 : w.heap.size ≤ B) : StP rb nb bi bf sb i np l rec f v w W0 s Y := by
  have hs : ∀ k, k < B → k < X.heap.size → Y.heap[k]? = X.heap[k]? := fun k hk hl => hg.block k hl (fun e => by have := hr _ e.symm; omega)
  exact ⟨(hs _ h0 h.r0.lt).trans h.r0, (hs _ h1 h.r1.lt).trans h.r1, (hs _ h2 h.r2.lt).trans h.r2, (hs _ h3 h.r3.lt).trans h.r3, (hs _ h4 h.r4.lt).trans h.r4,
    ⟨Nat.le_trans h.kb.1 hg.size, fun k hk a b => (hs k (by omega) (Nat.lt_of_lt_of_le hk h.kb.1)).trans (h.kb.2 k hk a b)⟩,
    ⟨hg.os.trans h.be.os, hg.tape.trans h.be.tape, hg.output.trans h.be.output, Nat.le_trans h.be.size hg.size, fun k hk => (hs k (by omega) (Nat.lt_of_lt_of_le hk h.be.size)).trans (h.be.block k hk)⟩,
    (hs _ h5 (Array.getElem?_eq_some_iff.1 h.lo).1).trans h.lo⟩
theorem StP.below {rb nb bi bf sb i np l : Nat} {rec : Loop} {f : FD} {v : Value} {w W0 : World} {s : Bool} {X Y : World} (h : StP rb nb bi bf sb i np l rec f v w W0 s X) (hb : Below X.heap.size X Y) : StP rb nb bi bf sb i np l rec f v w W0 s Y :=
  ⟨h.r0.below hb h.r0.lt, h.r1.below hb h.r1.lt, h.r2.below hb h.r2.lt, h.r3.below hb h.r3.lt, h.r4.below hb h.r4.lt, h.kb.below hb, h.be.trans (hb.mono h.be.size), (hb.block _ (Array.getElem?_eq_some_iff.1 h.lo).1).trans h.lo⟩
theorem StP.set {rb nb bi bf sb i np l : Nat} {rec : Loop} {f : FD} {v : Value} {w W0 : World} {s : Bool} {X : World} (h : StP rb nb bi bf sb i np l rec f v w W0 s X) (h0 : rb ≠ sb) (h1 : nb ≠ sb) (h2 : bi ≠ sb) (h3 : bf ≠ sb) (h5 : l ≠ sb) (h6 : W0.heap.size ≤ sb) (h7 : w.heap.size ≤ sb) (u : Bool) :
    StP rb nb bi bf sb i np l rec f v w W0 u (X.setCell ⟨sb, 0, none⟩ (.bool u)) :=
  ⟨h.r0.far (by exact h0) _, h.r1.far (by exact h1) _, h.r2.far (by exact h2) _, h.r3.far (by exact h3) _, h.r4.set 0 _,
    ⟨by have := h.kb.1; simpa [World.setCell] using this, fun k hk a b => (Below.heap_setCell X ⟨sb, 0, none⟩ (.bool u) k (by exact Nat.ne_of_lt (Nat.lt_of_lt_of_le hk h6))).trans (h.kb.2 k hk a b)⟩, h.be.setCell (by exact h7) _,
    (Below.heap_setCell X ⟨sb, 0, none⟩ (.bool u) l (by exact h5)).trans h.lo⟩
theorem hit_full (k i : Nat) (f : FD) (hf : f = tblF.getD i fd0) : (ofL k fullF).any (fun x => decide (x.1.name = f.name)) = hitB k i := by rw [hf]; rfl
/-- What stands while the messages are gone through: the boxes, the marks. -/
structure QSt (w : World) (nb : Nat) (Ds : List Nat) (W : World) : Prop where
  r0 : Row W w.heap.size 4 [.bool false]
  r1 : Row W nb 3 [.int .i64 32]
  be : Below w.heap.size w W
  nd : Ds.Nodup
  mks : ∀ D ∈ Ds, W.heap[D]? = some (.deferred (some [])) ∧ w.heap.size < D ∧ nb ≠ D
theorem QSt.grown {w : World} {nb : Nat} {Ds : List Nat} {X Y : World} {row : Option Nat} {B : Nat} (h : QSt w nb Ds X) (hg : X.grownBy Y row) (hr : ∀ r, row = some r → B ≤ r) (h0 : w.heap.size < B) (h1 : nb < B) (h2 : ∀ D ∈ Ds, D < B) : QSt w nb Ds Y := by
  have hs : ∀ k, k < B → k < X.heap.size → Y.heap[k]? = X.heap[k]? := fun k hk hl => hg.block k hl (fun e => by have := hr _ e.symm; omega)
  exact ⟨(hs _ h0 h.r0.lt).trans h.r0, (hs _ h1 h.r1.lt).trans h.r1,
    ⟨hg.os.trans h.be.os, hg.tape.trans h.be.tape, hg.output.trans h.be.output, Nat.le_trans h.be.size hg.size, fun k hk => (hs k (by omega) (Nat.lt_of_lt_of_le hk h.be.size)).trans (h.be.block k hk)⟩, h.nd,
    fun D hD => ⟨(hs D (h2 D hD) (Array.getElem?_eq_some_iff.1 (h.mks D hD).1).1).trans (h.mks D hD).1, (h.mks D hD).2⟩⟩
theorem QSt.below {w : World} {nb : Nat} {Ds : List Nat} {X Y : World} (h : QSt w nb Ds X) (hb : Below X.heap.size X Y) : QSt w nb Ds Y :=
  ⟨h.r0.below hb h.r0.lt, h.r1.below hb h.r1.lt, h.be.trans (hb.mono h.be.size), h.nd, fun D hD => ⟨(hb.block D (Array.getElem?_eq_some_iff.1 (h.mks D hD).1).1).trans (h.mks D hD).1, (h.mks D hD).2⟩⟩
theorem QSt.far {w : World} {nb : Nat} {Ds : List Nat} {X : World} (h : QSt w nb Ds X) (p : Addr) (v : Value) (hp : X.heap.size ≤ p.block ∨ (p.block ≠ w.heap.size ∧ p.block ≠ nb ∧ w.heap.size ≤ p.block ∧ ∀ D ∈ Ds, p.block ≠ D)) : QSt w nb Ds (X.setCell p v) := by
  have hs : ∀ k, k < X.heap.size → (k = w.heap.size ∨ k = nb ∨ k < w.heap.size ∨ k ∈ Ds) → (X.setCell p v).heap[k]? = X.heap[k]? := fun k hl hk => Below.heap_setCell X p v k (by
    rcases hp with h1 | ⟨h1, h2, h3, h4⟩
    · omega
    · rcases hk with rfl | rfl | hk | hk
      · exact Ne.symm h1
      · exact Ne.symm h2
      · omega
      · exact Ne.symm (h4 k hk))
  exact ⟨(hs _ h.r0.lt (.inl rfl)).trans h.r0, (hs _ h.r1.lt (.inr (.inl rfl))).trans h.r1,
    ⟨h.be.os, h.be.tape, h.be.output, by simpa [World.setCell] using h.be.size, fun k hk => (hs k (Nat.lt_of_lt_of_le hk h.be.size) (.inr (.inr (.inl hk)))).trans (h.be.block k hk)⟩, h.nd,
    fun D hD => ⟨(hs D (Array.getElem?_eq_some_iff.1 (h.mks D hD).1).1 (.inr (.inr (.inr hD)))).trans (h.mks D hD).1, (h.mks D hD).2⟩⟩
theorem results_boolC {fn : Func} {p : Tmp} (h : fn.results = #[.cell p 4]) (tmps : Array Value) (w : World) (k : Nat) (e : Bool) (hp : tmps.getD p undef = .pointer (some ⟨k, 0, none⟩)) (hk : Row w k 4 [.bool e]) : (results fn tmps).run Tryz.prog w = .ok (.bool e) w := by
  have hp' : tmps[p]?.getD undef = .pointer (some ⟨k, 0, none⟩) := by simpa using hp
  have h2 : (loadVar 4 ⟨k, 0, none⟩).run Tryz.prog w = .ok (.bool e) w := by
    have hc := hk.cell 0
    simp only [List.getElem?_cons_zero] at hc
    simp [loadVar, go_sem, hc]
  simp [results, h, hp', asAddr, h2, Result.andThen]
theorem OwnK.rowF {β : Type} {B g : Nat} {K : Obj → Prop} {t : TypeId} (l : β → List Value) (hg : g < B) : OwnK B K (fun (s : β) W => Row W g t (l s)) := OwnK.low (fun _ => g) (fun s => .cells (l s).toArray t) (fun _ => hg)
theorem full_idx {pre : List (Nat × FD)} {x : Nat × FD} (h : (pre ++ [x]) <+: fullF) : x.1 = pre.length ∧ x.1 < 32 ∧ x.2 = tblF.getD x.1 fd0 := by
  obtain ⟨r, hr⟩ := h
  have h1 : fullF[pre.length]? = some x := by rw [← hr]; simp
  have hl : pre.length < 32 := by
    have := (List.getElem?_eq_some_iff.1 h1).1
    rwa [fullF_length] at this
  unfold fullF at h1
  rw [List.getElem?_map, List.getElem?_range hl] at h1
  simp only [Option.map_some, Option.some.injEq] at h1
  subst h1
  exact ⟨rfl, hl, rfl⟩

set_option maxRecDepth 100000 in
set_option maxHeartbeats 4000000 in
theorem CatalogPlaces_walk (w : World) (hG : G w) (hM : M w) :
    Calls Tryz.prog 5 #[] w fun e w' => e = .returned (.bool true) ∧ Below w.heap.size w w' := by
  have HG := Lib.hid hG
  have HM := Lib.hid hM
  clear hG hM
  refine (callsIn_wide (n := 20)).1 ?_
  refine callsIn_of_wp_marks Tryz.func5 rfl trivial ?_ rfl
  simp only [Tryz.ntmps5, List.size_toArray, List.length_cons, List.length_nil, Nat.reduceAdd, Nat.reduceSub, Array.replicate_succ, Array.replicate_zero, List.push_toArray, List.append_toArray, List.nil_append, List.cons_append]
  have b0 : Below w.heap.size w (w.alloc (.cells #[.bool false] 4)) := (Below.refl _ _).alloc (Nat.le_refl _) _
  have r0 := Row.new w 4 [.bool false]
  gi_wp2_with fail
  refine ⟨trivial, (callsIn_wide.2 (awake15_any _ (HG.out.below b0) (HM.out.below b0))).mono ?_⟩
  rintro e w1 ⟨rfl, hb⟩
  have b1 := b0.trans (hb.mono b0.size)
  have r1 := r0.below hb (by simp)
  clear b0 r0 hb
  gi_wp2_with fail
  refine ⟨trivial, (Fields_in _ _).mono ?_⟩
  rintro e w2 ⟨rfl, rfl⟩
  gi_wp2_with fail
  have n1 := Row.new w1 3 [.int .i64 0]
  have r2 := r1.alloc (.cells #[.int .i64 0] 3)
  have b2 := b1.alloc b1.size (.cells #[.int .i64 0] 3)
  have z1 := b1.size
  have lr1 := r1.lt
  obtain ⟨nb, hnb⟩ : ∃ nb, w1.heap.size = nb := ⟨_, rfl⟩
  have zl : (w1.alloc (.cells #[.int .i64 0] 3)).heap.size = nb + 1 := by simp [hnb]
  rw [hnb] at n1 z1 lr1 ⊢
  generalize w1.alloc (.cells #[.int .i64 0] 3) = wl at n1 r2 b2 zl ⊢
  clear r1 b1 hnb
  refine' range_relH (T := fun _ k => k = w.heap.size ∨ k = nb) rfl (by omega) (gf := 24) (lb := #[]) rfl trivial (enters_of Tryz.func24 (by kernel_rfl) rfl)
    (Fields_stops 19 (by omega) (fun o => o.isCells = false) wl) (fun o h => h) (fun _ _ _ k h => h) (fun k h => h.elim) (Below.refl _ _) (fun B x av W h => by obtain ⟨v, rfl, _⟩ := h; rfl)
    (fun pre W' => Row W' w.heap.size 4 [.bool false] ∧ Row W' nb 3 [.int .i64 pre.length] ∧ Below w.heap.size w W')
    (fun _ _ _ => False)
    (OwnK.and (OwnK.row (by omega)) (OwnK.and (OwnK.rowF (fun (pre : List (Nat × FD)) => [.int .i64 pre.length]) (by omega)) (OwnK.below (Nat.le_refl _) (by omega))))
    (fun c => OwnK.pure)
    ⟨r2, n1, b2⟩
    (fun pre W' h k hk => ⟨by have h1 := h.1.lt; have h2 := h.2.1.lt; rcases hk with rfl | rfl <;> assumption, fun hge => by rcases hk with rfl | rfl <;> omega⟩)
    (fun x a W => ∃ bi bf v, wl.heap.size + 2 ≤ bi ∧ wl.heap.size + 2 ≤ bf ∧ (∃ a0 n c, v = .slice a0 n c) ∧ a = { tmps := List.toArray (Value.pointer (some ⟨w.heap.size, 0, none⟩) :: .pointer (some ⟨nb, 0, none⟩) :: .pointer (some ⟨bi, 0, none⟩) :: .pointer (some ⟨bf, 0, none⟩) :: undef :: undef :: undef :: undef :: undef :: undef :: .bool true :: .bool false :: .func (.func 24) #[] #[] :: .int .i64 x.1 :: .agg (fieldC x.2 v).toArray :: undef :: undef :: undef :: undef :: undef :: undef :: undef :: undef :: undef :: undef :: undef :: undef :: undef :: undef :: undef :: undef :: undef :: undef :: undef :: undef :: undef :: undef :: undef :: undef :: undef :: undef :: undef :: undef :: undef :: undef :: undef :: undef :: undef :: undef :: undef :: undef :: undef :: undef :: undef :: undef :: undef :: undef :: undef :: undef :: undef :: undef :: undef :: undef :: undef :: undef :: undef :: undef :: undef :: undef :: undef :: undef :: []), defers := [] } ∧ Row W bi 3 [.int .i64 x.1] ∧ Row W bf 32 (fieldC x.2 v))
    ?ap ?assign ?body ?done ?stop
  case ap =>
    rintro x a' W' o' ⟨bi, bf, v, h1, h2, hv, ha, hr, hs⟩
    exact ⟨bi, bf, v, h1, h2, hv, ha, (World.putObj_heap_other (by omega)).trans hr, (World.putObj_heap_other (by omega)).trans hs⟩
  case assign =>
    rintro l pre x av W' K' hI hpre hsz' ⟨v, rfl, hs⟩ hK
    obtain ⟨a0, cap, rfl⟩ := hs.form
    have HI := Lib.hid hI
    have HK := Lib.hid hK
    have hzW := hsz'
    have HAB : Hid (∀ o o' : Obj, Below W'.heap.size W' ((W'.alloc o).alloc o')) := Lib.hid fun o o' => ((Below.refl _ _).alloc (Nat.le_refl _) _).alloc (by simp) _
    clear hI hs hK
    simp only [fieldC]
    gi_wp2
    refine HK.out _ _ ⟨(HAB.out _ _).size, fun j o hj ho hc => ((HAB.out _ _).block j (Array.getElem?_eq_some_iff.1 ho).1).trans ho⟩ (keepsT_below (B := 0) (LowT.with fun _ _ _ k h => h) (by omega) (HAB.out _ _))
      ⟨HI.out.1.below (HAB.out _ _) HI.out.1.lt, HI.out.2.1.below (HAB.out _ _) HI.out.2.1.lt, HI.out.2.2.trans ((HAB.out _ _).mono HI.out.2.2.size)⟩
      ⟨W'.heap.size, W'.heap.size + 1, .slice a0 x.2.rule.texts.length cap, hzW, by omega, ⟨_, _, _, rfl⟩, rfl, (Row.new W' 3 [.int .i64 x.1]).alloc _, ?_⟩
    have h := Row.new (W'.alloc (.cells #[.int .i64 x.1] 3)) 32 (fieldC x.2 (.slice a0 x.2.rule.texts.length cap))
    rwa [World.size_alloc] at h
  case body =>
    rintro l pre ⟨i, f⟩ a' W' hlq ⟨rec, hrec⟩ ⟨q1, q2, qb⟩ hpre hsz' ⟨bi, bf, v, hbi, hbf, ⟨a0, cn, cc, rfl⟩, rfl, hri, hrf⟩
    have hlq2 : l = nb + 1 + 1 := by omega
    subst hlq2
    clear hlq
    have HX := Lib.hid (full_idx hpre)
    have hin9 := Lib.hid (inn_size (i, f) (hpre.subset (by simp)))
    have hpl : (pre.length : Int) < 32 := by have := HX.out.1; have := HX.out.2.1; simp only at *; omega
    have ci := hri.cell 0
    have cn0 := q2.cell 0
    have fn0 := q2.frozen 0
    have lq2 := q2.lt
    have lq1 := q1.lt
    simp only [List.getElem?_cons_zero] at ci cn0
    have hls : nb + 1 + 1 < W'.heap.size := (Array.getElem?_eq_some_iff.1 hrec).1
    have hbiW := hri.lt
    have hbfW := hrf.lt
    have lwn : w.heap.size < nb := lr1
    have St0 : Hid (StP w.heap.size nb bi bf W'.heap.size i pre.length (nb + 1 + 1) rec f (.slice a0 cn cc) w W' false ((W'.setCell ⟨nb, 0, none⟩ (.int .i64 ((pre.length : Int) + 1))).alloc (.cells #[.bool false] 4))) := Lib.hid (by
      have hk : KbP w.heap.size nb W' (W'.setCell ⟨nb, 0, none⟩ (.int .i64 ((pre.length : Int) + 1))) := ⟨by simp [World.setCell], fun k hk h1 h2 => Below.heap_setCell W' _ _ k (by exact h2)⟩
      have hk2 : KbP w.heap.size nb W' ((W'.setCell ⟨nb, 0, none⟩ (.int .i64 ((pre.length : Int) + 1))).alloc (.cells #[.bool false] 4)) := hk.below ((Below.refl _ _).alloc (Nat.le_refl _) _)
      have hn := (q2.set 0 (.int .i64 ((pre.length : Int) + 1))).alloc (.cells #[.bool false] 4)
      have hsb := Row.new (W'.setCell ⟨nb, 0, none⟩ (.int .i64 ((pre.length : Int) + 1))) 4 [.bool false]
      rw [show (W'.setCell ⟨nb, 0, none⟩ (.int .i64 ((pre.length : Int) + 1))).heap.size = W'.heap.size by simp [World.setCell]] at hsb
      exact ⟨(q1.far (by exact Nat.ne_of_lt lwn) _).alloc _, hn, (hk2.2 bi hbiW (by omega) (by omega)).trans hri, (hk2.2 bf hbfW (by omega) (by omega)).trans hrf, hsb, hk2, (qb.setCell (by exact z1) _).alloc (by simp [World.setCell]; exact qb.size) _, (hk2.2 (nb + 1 + 1) hls (by omega) (by omega)).trans hrec⟩)
    clear q1 q2 qb hri hrf hrec
    gi_wp2_with fail
    generalize (W'.setCell ⟨nb, 0, none⟩ (.int .i64 ((pre.length : Int) + 1))).alloc (.cells #[.bool false] 4) = wb at St0 ⊢
    gi_loopw [5] (fun x wr => ∃ k : Nat, x = .int .i64 k ∧ 1 ≤ k ∧ k ≤ 10 ∧ Hid (StP w.heap.size nb bi bf W'.heap.size i pre.length (nb + 1 + 1) rec f (.slice a0 cn cc) w W' ((List.range (k - 1)).any fun m => hitB (m + 1) i) wr)) (fun x _ => 10 - (intOf x).toNat)
    case atStart => exact ⟨1, by go_num, by omega, by omega, St0⟩
    case round =>
      obtain ⟨k, rfl, hk1, hk10, ST⟩ := hrel
      clear St0
      by_cases hk9 : k ≤ 9
      · have hk9I : (k : Int) ≤ 9 := by omega
        gi_wp2_with fail
        refine ⟨trivial, (CallsIn.inRound _ (Of_in _ k _)).mono ?_⟩
        rintro e w3 ⟨rfl, rfl⟩
        gi_wp2_with fail
        have hbm := Row.new wr 3 [.int .i64 k]
        have hb3 : Below wr.heap.size wr (wr.alloc (.cells #[.int .i64 k] 3)) := (Below.refl _ _).alloc (Nat.le_refl _) _
        have ST3 := Lib.hid (ST.out.below hb3)
        have z3 : (wr.alloc (.cells #[.int .i64 k] 3)).heap.size = wr.heap.size + 1 := by simp
        have zr : W'.heap.size < wr.heap.size := ST.out.r4.lt
        have hl0 : (wr.alloc (.cells #[.int .i64 k] 3)).heap[nb + 1 + 1]? = some (.loop rec) := ST3.out.lo
        generalize wr.alloc (.cells #[.int .i64 k] 3) = w3 at hbm ST3 z3 hl0 ⊢
        clear hb3 ST
        have hOwn : ∀ (sf : List (FD × Bool) → Bool), OwnK w3.heap.size (fun o : Obj => o.isCells = false) (fun (pre2 : List (FD × Bool)) W => StP w.heap.size nb bi bf W'.heap.size i pre.length (nb + 1 + 1) rec f (.slice a0 cn cc) w W' (sf pre2) W) := fun sf q X Y row hs hg hr => hs.grown (B := w3.heap.size) hg (fun r e => (hr r e).1) (by omega) (by omega) (by omega) (by omega) (by omega) (by omega) (by omega) (by omega)
        refine' range_relN (T := fun _ b => b = W'.heap.size) rfl hl0 (by omega) (gf := 30) (lb := #[.pointer (some ⟨wr.heap.size, 0, none⟩)]) rfl trivial (enters_of Tryz.func30 (by kernel_rfl) rfl)
          (Of_stops 17 (by omega) wr.heap.size k hk1 hk9 w3 hbm) (fun o h => h) (fun _ _ _ b h => h) (fun b h => ⟨by omega, fun _ e => by omega⟩) (Below.refl _ _) (fun B x av W h => by obtain ⟨v, rfl, _⟩ := h; rfl)
          (fun pre2 W2 => StP w.heap.size nb bi bf W'.heap.size i pre.length (nb + 1 + 1) rec f (.slice a0 cn cc) w W' (((List.range (k - 1)).any fun m => hitB (m + 1) i) || pre2.any fun x => decide (x.1.name = f.name)) W2)
          (fun _ _ _ => False)
          (hOwn _) (fun c => OwnK.pure)
          (by simpa using ST3.out)
          (fun pre2 W2 h b hb => ⟨by have := h.r4.lt; omega, fun hge => by omega⟩)
          (fun x a W => ∃ bx v, w3.heap.size + 1 ≤ bx ∧ (∃ a0 n c, v = .slice a0 n c) ∧ a = { tmps := List.toArray (Value.pointer (some ⟨w.heap.size, 0, none⟩) :: .pointer (some ⟨nb, 0, none⟩) :: .pointer (some ⟨bi, 0, none⟩) :: .pointer (some ⟨bf, 0, none⟩) :: .pointer (some ⟨W'.heap.size, 0, none⟩) :: .int .i64 k :: .pointer (some ⟨bx, 0, none⟩) :: .bool x.2 :: undef :: undef :: .bool true :: .bool false :: .func (.func 24) #[] #[] :: .int .i64 i :: .agg (fieldC f (.slice a0 cn cc)).toArray :: .int .i64 pre.length :: .int .i64 ((pre.length : Int) + 1) :: .int .i64 k :: .bool true :: u19 :: u20 :: .int .i64 k :: .func (.func 30) #[] #[.pointer (some ⟨wr.heap.size, 0, none⟩)] :: .agg (fieldC x.1 v).toArray :: .bool x.2 :: u25 :: u26 :: u27 :: u28 :: u29 :: u30 :: u31 :: u32 :: u33 :: u34 :: u35 :: undef :: undef :: undef :: undef :: undef :: undef :: undef :: undef :: undef :: undef :: undef :: undef :: undef :: undef :: undef :: undef :: undef :: undef :: undef :: undef :: undef :: undef :: undef :: undef :: undef :: undef :: undef :: undef :: undef :: undef :: undef :: undef :: undef :: undef :: undef :: []), defers := [] } ∧ Row W bx 32 (fieldC x.1 v))
          ?iap ?iassign ?ibody ?idone ?istop
        case iap =>
          rintro x a' W2 o' ⟨bx, v, h1, hv, ha, hr⟩
          exact ⟨bx, v, h1, hv, ha, (World.putObj_heap_other (by omega)).trans hr⟩
        case iassign =>
          rintro l2 pre2 x av W2 K2 hI hpre2 hsz2 ⟨v, rfl, hs⟩ hK
          obtain ⟨a2, c2, rfl⟩ := hs.form
          have HI := Lib.hid hI
          have HK := Lib.hid hK
          have HAB : Hid (∀ o : Obj, Below W2.heap.size W2 (W2.alloc o)) := Lib.hid fun o => (Below.refl _ _).alloc (Nat.le_refl _) _
          clear hI hs hK
          simp only [fieldC]
          gi_wp2
          exact HK.out _ _ ⟨(HAB.out _).size, fun j o hj ho hc => ((HAB.out _).block j (Array.getElem?_eq_some_iff.1 ho).1).trans ho⟩ (keepsT_below (B := 0) (LowT.with fun _ _ _ b h => h) (by omega) (HAB.out _))
            (HI.out.below (HAB.out _)) ⟨W2.heap.size, .slice a2 x.1.rule.texts.length c2, hsz2, ⟨_, _, _, rfl⟩, rfl, Row.new W2 _ _⟩
        case ibody =>
          rintro l2 pre2 ⟨g, rq⟩ a' W2 hI hpre2 hsz2 ⟨bx, v, hbx, ⟨a2, n2, c2, rfl⟩, rfl, hrx⟩
          have hreq := Lib.hid (fun (hi : i < 2) (hn : g.name = (tblF.getD i fd0).name) => req_all i k hi hk1 hk9 (g, rq) (hpre2.subset (by simp)) hn)
          have d0 := hrx.cell 0
          have e0 := hI.r3.cell 0
          have e2 := hI.r2.cell 0
          have fz := hI.r4.frozen 0
          have e4 := hI.r4.cell 0
          have l4 := hI.r4.lt
          simp only [fieldC, List.getElem?_cons_zero, List.getElem?_cons_succ] at d0 e0 e2 e4
          simp only [fieldC]
          by_cases hn : g.name = f.name
          · have heq : (g.name.toList == f.name.toList) = true := by rw [hn]; simp
            have SS := Lib.hid (hI.set (by omega) (by omega) (by omega) (by omega) (by omega) (Nat.le_refl _) (by omega) true)
            have hany : ((((List.range (k - 1)).any fun m => hitB (m + 1) i) || (pre2 ++ [(g, rq)]).any fun x => decide (x.1.name = f.name))) = true := by simp [hn]
            by_cases hi2 : i < 2
            · have hi2I : (i : Int) < 2 := by omega
              have hrq : rq = true := hreq.out hi2 (by rw [hn, HX.out.2.2])
              subst hrq
              clear hI hn
              gi_wp2
              exact ⟨⟨by simp [World.setCell], fun j o hj ho hc => (Below.heap_setCell W2 ⟨W'.heap.size, 0, none⟩ (.bool true) j (by exact (fun (e : j = W'.heap.size) => by have hj' := hj; omega))).trans ho⟩, ⟨by simp [World.setCell], fun j hj ht => ⟨Below.heap_setCell W2 ⟨W'.heap.size, 0, none⟩ (.bool true) j (by exact fun e => ht (.inr e)), ht⟩⟩, by dsimp only; rw [hany]; exact SS.out⟩
            · have hi2I : ¬ (i : Int) < 2 := by omega
              clear hI hn
              gi_wp2
              exact ⟨⟨by simp [World.setCell], fun j o hj ho hc => (Below.heap_setCell W2 ⟨W'.heap.size, 0, none⟩ (.bool true) j (by exact (fun (e : j = W'.heap.size) => by have hj' := hj; omega))).trans ho⟩, ⟨by simp [World.setCell], fun j hj ht => ⟨Below.heap_setCell W2 ⟨W'.heap.size, 0, none⟩ (.bool true) j (by exact fun e => ht (.inr e)), ht⟩⟩, by dsimp only; rw [hany]; exact SS.out⟩
          · have hneq := str_neC hn
            have HI2 := Lib.hid hI
            have hany : ((((List.range (k - 1)).any fun m => hitB (m + 1) i) || (pre2 ++ [(g, rq)]).any fun x => decide (x.1.name = f.name))) = (((List.range (k - 1)).any fun m => hitB (m + 1) i) || pre2.any fun x => decide (x.1.name = f.name)) := by simp [hn]
            rw [← hany] at HI2
            clear hI hany hn
            gi_wp2
            exact ⟨⟨Nat.le_refl _, fun j o hj ho hc => ho⟩, ⟨Nat.le_refl _, fun j hj ht => ⟨rfl, ht⟩⟩, HI2.out⟩
        case idone =>
          intro W2 h
          rw [hit_full k i f HX.out.2.2] at h
          have hst : (((List.range (k - 1)).any fun m => hitB (m + 1) i) || hitB k i) = ((List.range (k + 1 - 1)).any fun m => hitB (m + 1) i) := by
            rw [show k + 1 - 1 = (k - 1) + 1 by omega, List.range_succ, List.any_append, List.any_cons, List.any_nil, show k - 1 + 1 = k by omega, Bool.or_false]
          rw [hst] at h
          have ST4 := Lib.hid h
          clear h hst
          gi_wp2
          go_roundw
          case rel => exact ⟨k + 1, by go_num, by omega, by omega, ST4⟩
          case measure => simp [intOf]; omega
        case istop =>
          rintro c pre2 W2 hp h
          exact h.elim
      · have hk9I : ¬ (k : Int) ≤ 9 := by omega
        obtain rfl : k = 10 := by omega
        have hsm := some_all i HX.out.2.1
        have hst : ((List.range (10 - 1)).any fun m => hitB (m + 1) i) = true := hsm
        rw [hst] at ST
        have e4 := ST.out.r4.cell 0
        have e5 := ST.out.r3.cell 5
        simp only [fieldC, List.getElem?_cons_zero, List.getElem?_cons_succ] at e4 e5
        have h9 : f.inn.size = 9 := hin9.out
        clear hsm hst
        gi_wp2
        have hkb := ST.out.kb
        exact ⟨⟨hkb.1, fun j o hj ho hc => (hkb.2 j (Array.getElem?_eq_some_iff.1 ho).1 (by omega) (by omega)).trans ho⟩, ⟨hkb.1, fun j hj ht => ⟨hkb.2 j hj (fun e => ht (.inr (.inl e))) (fun e => ht (.inr (.inr e))), ht⟩⟩,
          ST.out.r0, by have := ST.out.r1; rw [List.length_append, List.length_singleton]; exact_mod_cast this, ST.out.be⟩
  case stop =>
    rintro D c pre W' hD hpre h hK
    exact h.elim
  case done =>
    rintro D W' hD ⟨q1, q2, qb⟩ hK
    have q2' : Row W' nb 3 [.int .i64 32] := by rw [fullF_length] at q2; exact q2
    have QS0 : Hid (QSt w nb [D] W') := Lib.hid ⟨q1, q2', qb, (by simp), fun E hE => by
      obtain rfl := List.mem_singleton.1 hE
      exact ⟨hK, by omega, by omega⟩⟩
    clear q1 q2 q2' qb hK
    gi_wp2_with fail
    refine wpIn_loop (fun a' W => ∃ (k : Nat) (Ds : List Nat) (u9 u44 u45 u46 u47 u48 u49 u50 u51 u52 u53 u54 u55 u56 u57 u58 u59 u60 u61 u62 u63 u64 u65 u66 u67 u68 : Value), a' = { tmps := List.toArray (Value.pointer (some ⟨w.heap.size, 0, none⟩) :: .pointer (some ⟨nb, 0, none⟩) :: undef :: undef :: undef :: undef :: undef :: undef :: .int .i64 k :: u9 :: .bool true :: .bool false :: .func (.func 24) #[] #[] :: undef :: undef :: undef :: undef :: undef :: undef :: undef :: undef :: undef :: undef :: undef :: undef :: undef :: undef :: undef :: undef :: undef :: undef :: undef :: undef :: undef :: undef :: undef :: undef :: undef :: undef :: undef :: undef :: undef :: undef :: undef :: u44 :: u45 :: u46 :: u47 :: u48 :: u49 :: u50 :: u51 :: u52 :: u53 :: u54 :: u55 :: u56 :: u57 :: u58 :: u59 :: u60 :: u61 :: u62 :: u63 :: u64 :: u65 :: u66 :: u67 :: u68 :: undef :: undef :: []), defers := Ds.map fun D => { target := .collected D, args := #[] } } ∧ 1 ≤ k ∧ k ≤ 10 ∧ Hid (QSt w nb Ds W)) (fun a' _ => 10 - (intOf (a'.tmps.getD 8 undef)).toNat) ⟨1, [D], _, _, _, _, _, _, _, _, _, _, _, _, _, _, _, _, _, _, _, _, _, _, _, _, _, _, rfl, by omega, by omega, QS0⟩ ?_
    rintro a' wr ⟨k, Ds, u9, u44, u45, u46, u47, u48, u49, u50, u51, u52, u53, u54, u55, u56, u57, u58, u59, u60, u61, u62, u63, u64, u65, u66, u67, u68, rfl, hk1, hk10, QS⟩
    clear QS0
    by_cases hk9 : k ≤ 9
    · have hk9I : (k : Int) ≤ 9 := by omega
      gi_wp2_with fail
      refine ⟨trivial, (Of_in _ k _).mono ?_⟩
      rintro e w3 ⟨rfl, rfl⟩
      gi_wp2_with fail
      have hkb := (Row.new wr 3 [.int .i64 0]).alloc (.cells #[.int .i64 k] 3)
      have hbm := Row.new (wr.alloc (.cells #[.int .i64 0] 3)) 3 [.int .i64 k]
      rw [World.size_alloc] at hbm
      have hb3 : Below wr.heap.size wr ((wr.alloc (.cells #[.int .i64 0] 3)).alloc (.cells #[.int .i64 k] 3)) := ((Below.refl _ _).alloc (Nat.le_refl _) _).alloc (by simp) _
      have z3 : ((wr.alloc (.cells #[.int .i64 0] 3)).alloc (.cells #[.int .i64 k] 3)).heap.size = wr.heap.size + 2 := by simp
      have QS3 := Lib.hid (QS.out.below hb3)
      have hDs : Hid (∀ D ∈ Ds, D < wr.heap.size) := Lib.hid fun D hD => (Array.getElem?_eq_some_iff.1 (QS.out.mks D hD).1).1
      have lq0 := QS.out.r0.lt
      have lq1 := QS.out.r1.lt
      change Row ((wr.alloc (.cells #[.int .i64 0] 3)).alloc (.cells #[.int .i64 k] 3)) wr.heap.size 3 [.int .i64 0] at hkb
      change Row ((wr.alloc (.cells #[.int .i64 0] 3)).alloc (.cells #[.int .i64 k] 3)) (wr.heap.size + 1) 3 [.int .i64 k] at hbm
      generalize (wr.alloc (.cells #[.int .i64 0] 3)).alloc (.cells #[.int .i64 k] 3) = w3 at hkb hbm QS3 z3 ⊢
      clear hb3 QS
      have hcnt := cnt_all k hk1 hk9
      refine' range_rel (T := fun _ b => b = wr.heap.size) rfl (by omega) (gf := 30) (lb := #[.pointer (some ⟨wr.heap.size + 1, 0, none⟩)]) rfl trivial (enters_of Tryz.func30 (by kernel_rfl) rfl)
        (Of_stops 19 (by omega) (wr.heap.size + 1) k hk1 hk9 w3 hbm) (fun o h => h) (fun _ _ _ b h => h) (fun b h => ⟨by omega, fun _ e => by omega⟩) (Below.refl _ _) (fun B x av W h => by obtain ⟨v, rfl, _⟩ := h; rfl)
        (fun pre2 W2 => Row W2 wr.heap.size 3 [.int .i64 pre2.length] ∧ QSt w nb Ds W2)
        (fun _ _ _ => False)
        (OwnK.and (OwnK.rowF (fun (pre2 : List (FD × Bool)) => [.int .i64 pre2.length]) (by omega)) (fun q X Y row hs hg hr => hs.grown (B := w3.heap.size) hg (fun r e => (hr r e).1) (by omega) (by omega) (fun D hD => by have := hDs.out D hD; omega))) (fun c => OwnK.pure)
        ⟨hkb, QS3.out⟩
        (fun pre2 W2 h b hb => ⟨by have := h.1.lt; omega, fun hge => by omega⟩)
        (fun x a W => ∃ v, a = { tmps := List.toArray (Value.pointer (some ⟨w.heap.size, 0, none⟩) :: .pointer (some ⟨nb, 0, none⟩) :: undef :: undef :: undef :: undef :: undef :: undef :: .int .i64 k :: .pointer (some ⟨wr.heap.size, 0, none⟩) :: .bool true :: .bool false :: .func (.func 24) #[] #[] :: undef :: undef :: undef :: undef :: undef :: undef :: undef :: undef :: undef :: undef :: undef :: undef :: undef :: undef :: undef :: undef :: undef :: undef :: undef :: undef :: undef :: undef :: undef :: undef :: undef :: undef :: undef :: undef :: undef :: undef :: undef :: .int .i64 k :: .bool true :: u46 :: u47 :: .int .i64 k :: .func (.func 30) #[] #[.pointer (some ⟨wr.heap.size + 1, 0, none⟩)] :: .agg (fieldC x.1 v).toArray :: .bool x.2 :: u52 :: u53 :: u54 :: u55 :: u56 :: u57 :: u58 :: u59 :: u60 :: u61 :: u62 :: u63 :: u64 :: u65 :: u66 :: u67 :: u68 :: undef :: undef :: []), defers := [] })
        ?jap ?jassign ?jbody ?jdone ?jstop
      case jap =>
        rintro x a' W2 o' ⟨v, ha⟩
        exact ⟨v, ha⟩
      case jassign =>
        rintro l2 pre2 x av W2 K2 hI hpre2 hsz2 ⟨v, rfl, hs⟩ hK
        have HI := Lib.hid hI
        have HK := Lib.hid hK
        clear hI hs hK
        gi_wp2
        exact HK.out _ _ ⟨Nat.le_refl _, fun j o hj ho hc => ho⟩ ⟨Nat.le_refl _, fun j hj ht => ⟨rfl, ht⟩⟩ HI.out ⟨v, by simp⟩
      case jbody =>
        rintro l2 pre2 x a' W2 ⟨hkb2, hq2⟩ hpre2 hsz2 ⟨v, rfl⟩
        have hpl : (pre2.length : Int) < 32 := by
          have := hpre2.length_le
          rw [List.length_append, List.length_singleton] at this
          omega
        have c0 := hkb2.cell 0
        have f0 := hkb2.frozen 0
        have l0 := hkb2.lt
        simp only [List.getElem?_cons_zero] at c0
        have HR := Lib.hid (hkb2.set 0 (.int .i64 ((pre2.length : Int) + 1)))
        have HQ := Lib.hid (hq2.far ⟨wr.heap.size, 0, none⟩ (.int .i64 ((pre2.length : Int) + 1)) (.inr ⟨by dsimp only; omega, by dsimp only; omega, by dsimp only; omega, fun D hD => by have := hDs.out D hD; dsimp only; omega⟩))
        clear hkb2 hq2
        gi_wp2
        exact ⟨⟨by simp [World.setCell], fun j o hj ho hc => (Below.heap_setCell W2 ⟨wr.heap.size, 0, none⟩ _ j (by exact (fun (e : j = wr.heap.size) => by have hj' := hj; omega))).trans ho⟩, ⟨by simp [World.setCell], fun j hj ht => ⟨Below.heap_setCell W2 ⟨wr.heap.size, 0, none⟩ _ j (by exact fun e => ht (.inr e)), ht⟩⟩,
          by have := HR.out; rw [List.length_append, List.length_singleton]; exact_mod_cast this, HQ.out⟩
      case jstop =>
        rintro D2 c pre2 W2 hD2 hp h hK2
        exact h.elim
      case jdone =>
        rintro D2 W2 hD2 ⟨hkb2, hq2⟩ hK2
        obtain ⟨L, hL⟩ : ∃ L, (ofL k fullF).length = L := ⟨_, rfl⟩
        rw [hL] at hkb2 hcnt
        have hL3 : ¬ (L : Int) < 3 := by omega
        have hL32 : ¬ (32 : Int) < (L : Int) := by omega
        have c0 := hkb2.cell 0
        have c1 := hq2.r1.cell 0
        simp only [List.getElem?_cons_zero] at c0 c1
        have HQ := Lib.hid hq2
        have HK2 := Lib.hid hK2
        clear hkb2 hq2 hK2 hL hcnt
        have HIX := index_msgs k (by omega)
        have HMS : Hid (∀ W : World, CallsIn Fence.wide 19 Tryz.prog 13 #[] W fun e w' => e = .returned (.agg (msgsL.map Value.string).toArray) ∧ Below W.heap.size W w') := Lib.hid fun W => by
          have h := callsIn_wide (n := 19).2 (Messages_any W)
          rwa [msgsV_is] at h
        have HMG : Hid (∀ W : World, CallsIn Fence.wide 19 Tryz.prog 16 #[.string (msgsL.getD k ⟨#[]⟩)] W fun e w' => e = .returned (.int .i64 k) ∧ Below W.heap.size W w') := Lib.hid fun W => by
          have h := callsIn_wide (n := 19).2 (Message_any (msgsL.getD k ⟨#[]⟩) W)
          rwa [msgNum_of k (by omega)] at h
        generalize (msgsL.map Value.string).toArray = A at HIX HMS
        generalize msgsL.getD k ⟨#[]⟩ = nm at HIX HMG
        have lD2 : D2 < W2.heap.size := (Array.getElem?_eq_some_iff.1 HK2.out).1
        gi_wp2_with fail
        refine ⟨trivial, (HMS.out _).mono ?_⟩
        rintro e w5 ⟨rfl, hb⟩
        have HQ5 := Lib.hid (HQ.out.below hb)
        have HK5 := Lib.hid ((hb.block D2 lD2).trans HK2.out)
        have hz5 := hb.size
        clear hb
        gi_wp2_with fail
        refine ⟨trivial, (HMG.out _).mono ?_⟩
        rintro e w6 ⟨rfl, hb⟩
        have HQ6 := Lib.hid (HQ5.out.below hb)
        have HK6 := Lib.hid ((hb.block D2 (by omega)).trans HK5.out)
        clear hb
        gi_wp2_with fail
        refine ⟨⟨k + 1, D2 :: Ds, _, _, _, _, _, _, _, _, _, _, _, _, _, _, _, _, _, _, _, _, _, _, _, _, _, _, rfl, by omega, by omega, Lib.hid ⟨HQ6.out.r0, HQ6.out.r1, HQ6.out.be, List.nodup_cons.2 ⟨fun hm => by have := hDs.out D2 hm; omega, HQ6.out.nd⟩, fun E hE => by
          rcases List.mem_cons.1 hE with rfl | hE
          · exact ⟨HK6.out, by omega, by omega⟩
          · exact HQ6.out.mks E hE⟩⟩, ?_⟩
        simp [intOf]
        omega
    · have hk9I : ¬ (k : Int) ≤ 9 := by omega
      have c1 := QS.out.r1.cell 0
      have f0 := QS.out.r0.frozen 0
      have d0 := QS.out.r0.cell 0
      have l0 := QS.out.r0.lt
      simp only [List.getElem?_cons_zero] at c1 d0
      have hr := Lib.hid (QS.out.r0.set 0 (.bool true))
      have hbe := Lib.hid (QS.out.be.setCell (p := ⟨w.heap.size, 0, none⟩) (Nat.le_refl _) (.bool true))
      have hmk : Hid (∀ D ∈ Ds, (wr.setCell ⟨w.heap.size, 0, none⟩ (.bool true)).heap[D]? = some (.deferred (some []))) := Lib.hid fun D hD => (Below.heap_setCell wr ⟨w.heap.size, 0, none⟩ (.bool true) D (by exact Ne.symm (Nat.ne_of_lt (QS.out.mks D hD).2.1))).trans (QS.out.mks D hD).1
      gi_wp2
      refine leaves_marks Ds _ QS.out.nd hmk.out fun W9 h1 h2 h3 h4 h5 => ?_
      have hno : w.heap.size ∉ Ds := fun hm => Nat.lt_irrefl _ (QS.out.mks _ hm).2.1
      exact ⟨_, results_boolC rfl _ _ w.heap.size true rfl ((h5 _ hno).trans hr.out), rfl, ⟨h1.trans hbe.out.os, h2.trans hbe.out.tape, h3.trans hbe.out.output, by rw [h4]; exact hbe.out.size, fun k hk => (h5 k (fun hm => by have := (QS.out.mks _ hm).2.1; omega)).trans (hbe.out.block k hk)⟩⟩
end Go.Proofs.YtkjbfecnkfafpaaGreatDoor

namespace Go.Proofs.YtkjbfecnkfafpaaGreatDoor
open Go.RowKit
set_option linter.unusedVariables false

theorem G_of_tab_f {W : World} (h : Lib.TabIs Tryz.prog W "cashier/sha.starts" .u32 [1779033703, 3144134277, 1013904242, 2773480762, 1359893119, 2600822924, 528734635, 1541459225]) : G W := by
  unfold Lib.TabIs World.var? at h
  rw [show Tryz.prog.globalNamed "cashier/sha.starts" = some 6 by kernel_rfl] at h
  simp only [Option.bind_some] at h
  split at h
  · rename_i cs t fr hq
    refine ⟨t, fr, ?_⟩
    rw [hq]
    obtain rfl := Option.some.inj h
    rfl
  · cases h
theorem laidMet_tail_f {P : Program} {x : String × DataW Unit} {r : List (String × DataW Unit)} {w : World} (h : laidMet P (x :: r) w) : laidMet P r w := by
  obtain ⟨ps, hv, hn, hc⟩ := h
  obtain ⟨n, d⟩ := x
  obtain ⟨g, t, cs, fuel, p, q, _, _, _, _, hq, rfl⟩ := hv
  exact ⟨q, hq, (List.nodup_append.1 hn).2.1, fun b off hb => hc b off (List.mem_append.2 (.inr hb))⟩
theorem G_of_laid8 {W : World} (h : laidMetH Tryz.prog [("math/bits.deBruijn32tab", Rows.laid_math_bits_deBruijn32tab), ("math/bits.deBruijn64tab", Rows.laid_math_bits_deBruijn64tab), ("internal/strconv.uint64pow10", Rows.laid_internal_strconv_uint64pow10), ("unicode/utf8.acceptRanges", Rows.laid_unicode_utf8_acceptRanges), ("strconv.ErrRange", Rows.laid_strconv_ErrRange), ("strconv.ErrSyntax", Rows.laid_strconv_ErrSyntax), ("cashier/sha.starts", Rows.laid_cashier_sha_starts), ("unicode/utf8.first", Rows.laid_unicode_utf8_first)] W) : G W :=
  G_of_tab_f (Lib.tabIs_of_head (g := 6) (t := 169) (e := 136) (n := 8) (rest := [("unicode/utf8.first", Rows.laid_unicode_utf8_first)]) (by kernel_rfl) (by kernel_rfl) Tryz.underlying169 Tryz.underlying136 (by kernel_rfl) (by kernel_rfl) (laidMet_tail_f (laidMet_tail_f (laidMet_tail_f (laidMet_tail_f (laidMet_tail_f (laidMet_tail_f h)))))))
end Go.Proofs.YtkjbfecnkfafpaaGreatDoor

namespace Go.Proofs.YtkjbfecnkfafpaaGreatDoor
open Go.ChangeShapes Go.WideShapes Go.RowKit
set_option linter.unusedVariables false

section
variable {H : Type} {enc : TypeId × Value → H}
theorem returns_shaped_and {a : Assume} {C : Checked} {os : Os} {f : FuncId} {fn : Func} {s : ChangeSpec} {conds : List PathCond} {apart fresh handsOn again : Bool} {X : World → Array Value → Prop}
    (hX : ∀ (w w' : World) (args : Array Value), w.heap = w'.heap → X w args → X w' args)
    (own : ownKnob C.prog.godebug = none) (started : os.Started) (noInit : C.prog.inits.idxOf? f = none) (hfn : C.prog.funcs[f]? = some fn)
    (witness : ∃ (w : World) (tape : Tape) (i : Input), w.os = os ∧ (w.forCall tape i).Shaped C.prog ∧ i.vars = [] ∧ Input.okWide C.prog (w.forCall tape i) .any w.heap.size f i ∧
      ((s.pre enc C.prog fn conds apart (w.forCall tape i).memory i.args ∧ X (w.forCall tape i).memory i.args) ∧ sizedMet enc C.prog fn (OpenSpec.ofChange s) apart (w.forCall tape i).memory i.args) ∧ a.holds C.prog (lone (Frame.enter C.prog f i.args .normal) [] (w.forCall tape i)))
    (contract : ∀ (W : World) (base : Nat) (args : Array Value) (ds gs : List (DataW H)) (before : List MemPlace),
      (∀ (j : Nat) t v, fn.params[j]? = some t → args[j]? = some v → Value.okWide C.prog W .any base t v) →
      DataW.Whole enc C.prog fn.params.toList s.vars apart W args.toList ds gs before →
      conds.all (PathCond.test C.prog ⟨fn.params.toList, ds, s.plain.varTypes C.prog, gs⟩) = true →
      (DataW.weightsEach C.prog (fn.params.toList ++ s.plain.varTypes C.prog) (ds ++ gs)).all (· ≤ reachBytes) = true → X W args → W.ShapedOpen C.prog →
      Calls C.prog f args W fun e W' => ∃ v, e = .returned v ∧ s.post enc C.prog fn apart fresh handsOn again W args v W') :
    ReturnsInHanded a C os f .any (fun w args => (s.pre enc C.prog fn conds apart w args ∧ X w args) ∧ sizedMet enc C.prog fn (OpenSpec.ofChange s) apart w args) (s.post enc C.prog fn apart fresh handsOn again) := by
  refine returnsInHanded_of_calls own started noInit witness ?_
  intro w tape i _ hsh _ hok hpre _
  obtain ⟨_, _, _, fn', hfn', _, _, _, _, hval⟩ := hok
  obtain rfl : fn' = fn := Option.some.inj (hfn'.symm.trans hfn)
  obtain ⟨⟨⟨ds, gs, before, hw, hc⟩, hx⟩, hz⟩ := hpre
  refine (contract (w.forCall tape i) w.heap.size i.args ds gs before hval (DataW.Whole.of_heap (w' := w.forCall tape i) (by rfl) hw) hc (hz.weights hw) (hX _ _ _ (by rfl) hx) hsh).mono fun e W' ⟨v, he, hp⟩ => ?_
  subst he
  exact ChangeSpec.post_blind hp
end

theorem M_of_shaped {W : World} (h : W.ShapedOpen Tryz.prog) : M W :=
  cell_of_shapedOpen_int (t := 3) (zero := #[.int .i64 0]) h (of_decide_eq_true (by kernel_rfl)) (by kernel_rfl) rfl (by kernel_rfl) (by kernel_rfl) Tryz.underlying3
end Go.Proofs.YtkjbfecnkfafpaaGreatDoor

namespace Go.Proofs.YtkjbfecnkfafpaaGreatDoor.catalogPlaces
open Go.ChangeShapes Go.WideShapes Go.ChangeAt Go.RowKit
open Go.ChangeMaps (open_string shut_string)
set_option linter.unusedVariables false

theorem own : ownKnob Tryz.prog.godebug = none := by kernel_rfl

set_option maxRecDepth 100000 in
set_option maxHeartbeats 4000000 in
theorem lifted (os : Os) (started : os.Started) (H : Type) (enc : TypeId × Value → H) :
    ReturnsInHanded {} Tryz.checked os 5 .any (fun w args => (Rows.catalogPlacesSpec.pre enc Tryz.prog Tryz.f5 Rows.catalogPlacesRow.domain false w args ∧ laidMetH Tryz.prog Rows.catalogPlacesRow.laid w) ∧ sizedMet enc Tryz.prog Tryz.f5 (OpenSpec.ofChange Rows.catalogPlacesSpec) false w args) (Rows.catalogPlacesSpec.post enc Tryz.prog Tryz.f5 false true false false) := by
  refine returns_shaped_and (C := Tryz.checked) (X := fun w _ => laidMetH Tryz.prog Rows.catalogPlacesRow.laid w) (fun _ _ _ hh h => h.of_heap hh) own started (by kernel_rfl) Tryz.func5
    (ChangeSpec.witness_shaped (enc := enc) (C := Tryz.checked) (os := os) (X := fun w _ => laidMetH Tryz.prog Rows.catalogPlacesRow.laid w) false (World.laidAll Tryz.prog os Rows.catalogPlacesRow.laid) #[] 8 (World.laidAll_os _ _ _) (World.shaped_of_ZipB (by kernel_rfl) (by kernel_rfl)) (by kernel_rfl) (by kernel_rfl) (by kernel_rfl) (by rw [MakeChecks.laidMetH_plain _ _ _ (by kernel_rfl)]; exact laidMet_laidAll _ (by kernel_rfl) (by kernel_rfl))) ?_
  intro W base args ds gs before hval0 hW hcnd hsz0 hX1 hX2
  have hsz : (DataW.weightsEach Tryz.prog (Tryz.f5.params.toList ++ Rows.catalogPlacesSpec.plain.varTypes Tryz.prog) (ds ++ gs)).all (· ≤ reachBytes) = true := hsz0
  have hval : ∀ (j : Nat) t v, Tryz.f5.params[j]? = some t → args[j]? = some v → Value.okWide Tryz.prog W .any base t v := hval0
  have hW' := hW
  obtain ⟨p, q, hA0, hV, rfl, hfz, hnd⟩ := hW
  have hA : DataW.TrodAll enc Tryz.prog W 0 (fun _ => true) true Tryz.f5.params.toList args.toList ds p := hA0
  rw [Tryz.params5] at hA hval hsz
  obtain ⟨hargs, rfl, rfl⟩ := trodAll_nil hA
  obtain rfl : args = #[] := by cases args; simp_all
  obtain ⟨rfl, rfl⟩ := trodVars_none hV
  clear hA0 hval0 hsz hsz0
  simp only [List.append_nil] at hW'
  refine (CatalogPlaces_walk W (G_of_laid8 hX1) (M_of_shaped hX2)).mono fun e W' ⟨he, bel⟩ => ?_
  subst he
  exact ⟨_, rfl, _, _, _, [], _, [], hW', trodAll_mk1 (shut_bool Tryz.underlying4 _), trodAll_mk0, rfl, bel.frame _, fun h => by cases h⟩

set_option maxRecDepth 100000 in
set_option maxHeartbeats 4000000 in
theorem closed : joinedFacts Tryz.prog 5 Tryz.f5 Rows.catalogPlacesSpec Rows.catalogPlacesRow = true := by
  unfold joinedFacts
  simp only [Bool.and_eq_true]
  repeat' apply And.intro
  all_goals as_aux_lemma => kernel_rfl

set_option maxHeartbeats 4000000 in
theorem over : Rows.catalogPlacesRow.holds Tryz.pinned (OpenSpec.ofChange Rows.catalogPlacesSpec) :=
  OpenClaim.holds_of_wide 5 Tryz.f5 rfl rfl rfl rfl rfl rfl rfl ⟨rfl, rfl, rfl, rfl, rfl⟩ rfl rfl rfl rfl rfl (by kernel_rfl) Tryz.func5 closed
    (of_decide_eq_true (by kernel_rfl)) (by unfold Func.isWrapper; first | (rw [if_pos (by decide +kernel)]; kernel_rfl) | (rw [if_neg (by decide +kernel)]; exact ⟨rfl, rfl⟩))
    (fun os started H enc _ => lifted os started H enc)

set_option maxHeartbeats 4000000 in
theorem proved : Rows.CatalogPlacesCardSaid :=
  Claim7.holds_tied_plain_at .later [] [.data, .data, .data, .data, .sentinel, .sentinel, .data, .pinned] true (true, "08a90a570a0478664d4894f8f6612cfb04954d031610c5bdf0e4bb84bcc8d547") true
    over (fun _ h => by cases h) (by kernel_rfl) (fun _ h => by cases h) catalogPlaces_row_tie rfl ⟨rfl, rfl⟩ (by kernel_rfl) rfl
    (fun f fn hf hfn => by
      obtain rfl : f = 5 := Option.some.inj ((show Tryz.prog.funcNamed "cashier/cashierlaw15.CatalogPlaces" = some 5 by kernel_rfl).symm.trans hf) |>.symm
      obtain rfl : fn = Tryz.f5 := (Option.some.inj (Tryz.func5.symm.trans hfn)).symm
      exact ⟨by kernel_rfl, fun j t ht => by
        rw [Tryz.params5] at ht
        have hm : t ∈ [] := by simpa using Array.mem_of_getElem? ht
        have hall : ([].all fun u => !Tryz.prog.wantsStandIn u) = true := by kernel_rfl
        exact (show Tryz.prog.wantsStandIn t = false by simpa using List.all_eq_true.1 hall t hm)⟩)
    (by kernel_rfl)

end Go.Proofs.YtkjbfecnkfafpaaGreatDoor.catalogPlaces
