/- The fields of a message gone through: the iterator's contract. -/
import Derived.Test.YtheidjnapoipaaaGreatDoorCIter
namespace Go.Proofs.YtheidjnapoipaaaGreatDoor
open Go.RowKit
set_option linter.unusedVariables false
set_option linter.unusedSimpArgs false
attribute [local go_sem] Oper.semAt_some

/-- The letter of a field for a message. -/
def letF (f : FD) (m : Nat) : Nat := (f.inn.data.toList.getD (m - 1) 0).toNat
/-- Of fields: those that the message may have, and whether it must. -/
def ofL (m : Nat) (l : List (Nat × FD)) : List (FD × Bool) := (l.filter fun x => letF x.2 m != 45).map fun x => (x.2, letF x.2 m == 82)
theorem ofL_snoc (m : Nat) (l : List (Nat × FD)) (x : Nat × FD) : ofL m (l ++ [x]) = if letF x.2 m = 45 then ofL m l else ofL m l ++ [(x.2, letF x.2 m == 82)] := by
  unfold ofL
  rw [List.filter_append, List.map_append]
  by_cases h : letF x.2 m = 45 <;> simp [h]
theorem ofL_prefix (m : Nat) {l l' : List (Nat × FD)} (h : l <+: l') : ofL m l <+: ofL m l' := by
  obtain ⟨r, rfl⟩ := h
  unfold ofL
  rw [List.filter_append, List.map_append]
  exact List.prefix_append _ _
def EncO (B : Nat) (x : FD × Bool) (av : Array Value) (W : World) : Prop := ∃ v, av = #[.agg (fieldC x.1 v).toArray, .bool x.2] ∧ StrsB B W v x.1.rule.texts
theorem inn_size (x : Nat × FD) (h : x ∈ fullF) : x.2.inn.size = 9 := by
  have : fullF.all (fun x => x.2.inn.size == 9) = true := by decide +kernel
  have := List.all_eq_true.1 this x h
  simpa using this

theorem Fields_in (n : Nat) (w : World) : CallsIn Fence.wide n Tryz.prog 7 #[] w fun e w' => e = .returned (.func (.func 23) #[] #[]) ∧ w = w' := by
  refine callsIn_wide.2 ?_
  go_enter Tryz.func7, Tryz.ntmps7
  go_wp2
  go_ret
  exact ⟨rfl, rfl⟩

theorem roundR_wide {P : Program} {l l' f n m : Nat} {tmps : Array Value} {assign body : Code} {w : World} {R : Ending → World → Prop} (h : RoundIn Fence.wide n P l f tmps assign body w R) : RoundIn (Fence.wide.inRound l') m P l f tmps assign body w R :=
  ⟨trivial, fun c cs _ => h.2 c cs (room_wide _)⟩
theorem strsB_putObj {B l : Nat} {W : World} {v : Value} {x : List ByteArray} (h : StrsB B W v x) (hl : l < B) (o' : Obj) : StrsB B (W.putObj l o') v x :=
  h.keep (by simp) fun k hk _ => World.putObj_heap_other (by omega)
theorem OwnK.lift {α β : Type} {B : Nat} {K : Obj → Prop} {J : β → World → Prop} (h : OwnK B K J) (f : α → β) : OwnK B K (fun a W => J (f a) W) := fun s X Y row hs hg hr => h (f s) X Y row hs hg hr
theorem OwnK.size {β : Type} {B n : Nat} {K : Obj → Prop} : OwnK B K (fun (_ : β) W => n ≤ W.heap.size) := fun s X Y row hs hg _ => Nat.le_trans hs hg.size
theorem OwnK.notT {β : Type} {B b : Nat} {K : Obj → Prop} {T : World → Nat → Prop} (h : LowT T B) : OwnK B K (fun (_ : β) W => B ≤ W.heap.size ∧ ¬ T W b) := fun s X Y row hs hg hr =>
  ⟨Nat.le_trans hs.1 hg.size, fun ht => hs.2 (h X Y (fun k hk => hg.block k (Nat.lt_of_lt_of_le hk hs.1) (fun e => by have := (hr _ e.symm).1; omega)) b ht)⟩
theorem OwnK.row {β : Type} {B g : Nat} {K : Obj → Prop} {t : TypeId} {l : List Value} (hg : g < B) : OwnK B K (fun (_ : β) W => Row W g t l) := OwnK.low (fun _ => g) (fun _ => .cells l.toArray t) (fun _ => hg)

/-- How the round begins: the field lies in a box of its own. -/
def AxO (y bm yb m B : Nat) (x : Nat × FD) (a : Act) (W : World) : Prop := ∃ bx v, B + 2 ≤ bx ∧ a = { tmps := #[.func (.yield y) #[] #[], .pointer (some ⟨bm, 0, none⟩), .pointer (some ⟨yb, 0, none⟩), undef, .pointer (some ⟨bx, 0, none⟩), undef, .int .i64 m, .bool false, .bool false, .int .i64 m, .bool false, .bool false,
    .func (.func 23) #[] #[], .int .i64 x.1, .agg (fieldC x.2 v).toArray, undef, undef, undef, undef, undef, undef, undef, undef, undef, undef, undef, undef, undef, undef, undef], defers := [] } ∧ Row W bx 32 (fieldC x.2 v) ∧ StrsB (B + 2) W v x.2.rule.texts

set_option maxRecDepth 100000 in
set_option maxHeartbeats 4000000 in
theorem Of_stops (n : Nat) (hn : 4 ≤ n) (bm m : Nat) (h1 : 1 ≤ m) (h9 : m ≤ 9) (w : World) (hM : Row w bm 3 [.int .i64 m]) :
    StopsR Fence.wide n Tryz.prog 29 #[.pointer (some ⟨bm, 0, none⟩)] EncO (fun o => o.isCells = false) (fun k => k = bm) (ofL m fullF) w := by
  intro y T J Jx W hW hsz hJ hJx hLT hTJ hS hY h0
  have HJ := Lib.hid hJ
  have HJx := Lib.hid hJx
  have HLT := Lib.hid hLT
  have HTJ := Lib.hid hTJ
  have HS := Lib.hid hS
  have HY := Lib.hid hY
  have H0 := Lib.hid h0
  clear hJ hJx hLT hTJ hS hY h0
  have hbm := hM.lt
  have hM1 := hM.below hW hbm
  have hc0 := hM1.cell 0
  simp only [List.getElem?_cons_zero] at hc0
  have hbW : bm < W.heap.size := hM1.lt
  refine callsIn_of_wp_marks Tryz.func29 rfl trivial ?_ rfl
  simp only [Tryz.ntmps29, List.size_toArray, List.length_cons, List.length_nil, Nat.reduceAdd, Nat.reduceSub, Array.replicate_succ, Array.replicate_zero, List.push_toArray, List.append_toArray, List.nil_append, List.cons_append]
  have m1 : ¬ (m : Int) < 1 := by omega
  have m9 : ¬ 9 < (m : Int) := by omega
  obtain ⟨mi, hmi⟩ : ∃ mi : Nat, (m : Int) - 1 = (mi : Int) := ⟨m - 1, by omega⟩
  have hmi9 : mi < 9 ∧ m - 1 = mi := by omega
  have hy0 := Row.new W 61 [.func (.yield y) #[] #[]]
  have hb0 : Below W.heap.size W (W.alloc (.cells #[.func (.yield y) #[] #[]] 61)) := (Below.refl _ _).alloc (Nat.le_refl _) _
  have hz0 : (W.alloc (.cells #[.func (.yield y) #[] #[]] 61)).heap.size = W.heap.size + 1 := by simp
  have hT0 := Lib.hid (HTJ.out [] W H0.out)
  have hHMI := Lib.hid hmi
  clear hmi
  gi_wp2_with fail
  refine ⟨trivial, fun h => (by cases h), (Fields_in _ _).mono ?_⟩
  rintro e w2 ⟨rfl, rfl⟩
  gi_wp2_with fail
  generalize W.alloc (.cells #[.func (.yield y) #[] #[]] 61) = wl at hy0 hb0 hz0 ⊢
  have hNy : Hid (¬ T wl W.heap.size) := Lib.hid fun ht => by
    have := (hT0.out _ (HLT.out W wl (fun k hk => hb0.block k hk) _ ht)).1
    omega
  have HLl : Hid (LowT T wl.heap.size) := Lib.hid (HLT.out.mono hb0.size)
  refine' range_rel (T := T) rfl (by omega) (gf := 23) (lb := #[]) rfl trivial (enters_of Tryz.func23 (by kernel_rfl) rfl)
    (Fields_stops (n - 1) (by omega) (fun o => o.isCells = false) wl) (fun o h => h) HLl.out (fun k h => h.elim) (Below.refl _ _) (fun B x av W h => by obtain ⟨v, rfl, _⟩ := h; rfl)
    (fun pre W' => (Row W' bm 3 [.int .i64 m] ∧ Row W' W.heap.size 61 [.func (.yield y) #[] #[]]) ∧ (wl.heap.size ≤ W'.heap.size ∧ ¬ T W' W.heap.size) ∧ J (ofL m pre) W')
    (fun c pre W' => c = .ret ∧ Jx (ofL m pre) W')
    (OwnK.and (OwnK.and (OwnK.row (by omega)) (OwnK.row (by omega))) (OwnK.and (OwnK.notT HLl.out) ((HJ.out.mono hb0.size).lift _)))
    (fun c => OwnK.and OwnK.pure ((HJx.out.mono hb0.size).lift _))
    ⟨⟨hM1.below hb0 hbW, hy0⟩, ⟨Nat.le_refl _, hNy.out⟩, HJ.out.grown hb0 H0.out⟩
    (fun pre W' h => (HTJ.out _ _ h.2.2).mono hb0.size)
    (AxO y bm W.heap.size m wl.heap.size)
    ?ap ?assign ?body ?done ?stop
  case ap =>
    rintro x a' W' o' ⟨bx, v, hbx, ha, hr, hs⟩
    exact ⟨bx, v, hbx, ha, (World.putObj_heap_other (by omega)).trans hr, strsB_putObj hs (by omega) o'⟩
  case assign =>
    rintro l pre x av W' K' hI hpre hsz' ⟨v, rfl, hs⟩ hK
    obtain ⟨a0, cap, rfl⟩ := hs.form
    have HAB : Hid (∀ o : Obj, Below W'.heap.size W' (W'.alloc o)) := Lib.hid fun o => (Below.refl _ _).alloc (Nat.le_refl _) _
    have HI := Lib.hid hI
    have HSs := Lib.hid hs
    clear hI hs
    have hzW := hsz'
    have HK := Lib.hid hK
    clear hK
    simp only [fieldC]
    gi_wp2
    exact HK.out _ _ ⟨(HAB.out _).size, fun j o hj ho hc => ((HAB.out _).block j (Array.getElem?_eq_some_iff.1 ho).1).trans ho⟩ (keepsT_below HLl.out.with (by omega) (HAB.out _))
      ⟨⟨HI.out.1.1.below (HAB.out _) HI.out.1.1.lt, HI.out.1.2.below (HAB.out _) HI.out.1.2.lt⟩, ⟨Nat.le_trans HI.out.2.1.1 (HAB.out _).size, fun ht => HI.out.2.1.2 (HLl.out _ _ (fun k hk => (HAB.out _).block k (by omega)) _ ht)⟩, (HJ.out.mono hb0.size).grown (HAB.out _) HI.out.2.2⟩
      ⟨W'.heap.size, .slice a0 x.2.rule.texts.length cap, hzW, rfl, Row.new W' _ _, HSs.out.below (HAB.out _)⟩
  case body =>
    rintro l pre ⟨i, f⟩ a' W' hI hpre hsz' ⟨bx, v, hbx, rfl, hr, hs⟩
    obtain ⟨a0, cap, rfl⟩ := hs.form
    have hin := inn_size (i, f) (hpre.subset (by simp))
    have hin9 : f.inn.size = 9 := hin
    have hix := run_index_str_d (P := Tryz.prog) 9 f.inn mi Tryz.underlying9 (by omega)
    have hlet : (f.inn.data.toList.getD mi 0).toNat = letF f m := by unfold letF; rw [hmi9.2]
    have hc0 := hr.cell 0
    have hc1 := hr.cell 1
    have hc2 := hr.cell 2
    have hc3 := hr.cell 3
    have hc4 := hr.cell 4
    have hc5 := hr.cell 5
    have hcm := hI.1.1.cell 0
    have hcy := hI.1.2.cell 0
    simp only [fieldC, List.getElem?_cons_zero, List.getElem?_cons_succ] at hc0 hc1 hc2 hc3 hc4 hc5 hcm hcy
    rw [hlet] at hix
    obtain ⟨c, hc⟩ : ∃ c, letF f m = c := ⟨_, rfl⟩
    have hsn := ofL_snoc m pre (i, f)
    rw [show letF (i, f).2 m = c from hc] at hsn
    rw [hc] at hix
    have hmi := hHMI.out
    simp only [fieldC]
    by_cases h45 : c = 45
    · subst h45
      rw [if_pos rfl] at hsn
      have hI' := hI.2.2
      rw [← hsn] at hI'
      have HI := Lib.hid (And.intro hI.1 (And.intro hI.2.1 hI'))
      clear hI hI' hsn hlet
      gi_wp2
      refine ⟨fun f h => (by cases h), ?_⟩
      gi_wp2
      exact ⟨⟨Nat.le_refl _, fun j o hj ho hc => ho⟩, ⟨Nat.le_refl _, fun j hj ht => ⟨rfl, ht⟩⟩, HI.out⟩
    · rw [if_neg h45] at hsn
      have h45I : ((c : Int) != 45) = true := by rw [bne_iff_ne]; omega
      have h82 : ((c : Int) == 82) = (c == 82) := by
        by_cases h : c = 82
        · subst h; rfl
        · rw [beq_eq_false_iff_ne.2 (by omega), beq_eq_false_iff_ne.2 h]
      have hp2 : ofL m pre ++ [(f, c == 82)] <+: ofL m fullF := by rw [← hsn]; exact ofL_prefix m hpre
      obtain ⟨fn, tmps, assign, body, hy, hRd⟩ := HY.out (ofL m pre) (f, c == 82) #[.agg (fieldC f (.slice a0 f.rule.texts.length cap)).toArray, .bool (c == 82)] W' hI.2.2 hp2 (by omega) ⟨_, rfl, hs.mono (by omega)⟩
      change (Instr.yield y #[.agg #[.string f.name, .int .i64 f.rule.kind, .int .i64 f.rule.least, .int .i64 f.rule.most, .slice a0 f.rule.texts.length cap, .string f.inn], .bool (c == 82)]).run Tryz.prog _ = _ at hy
      have HRd := Lib.hid hRd
      have HI := Lib.hid hI
      rw [← hsn] at HRd
      clear hRd hI hlet
      gi_wp2_with fail
      refine ⟨fun h => (by cases h), (roundR_wide HRd.out).mono ?_⟩
      rintro e W3 hpost
      have hk3 : KeepsT T W' W3 := by rcases hpost with ⟨_, _, h⟩ | ⟨_, _, h⟩ <;> exact h
      have hKF : KeepsFrom wl.heap.size W' W3 := keepsFrom_t ((HTJ.out _ _ HI.out.2.2).mono hb0.size) hk3
      have hKT : KeepsT (withT (wl.heap.size + 1) T) W' W3 := keepsT_with hk3
      obtain ⟨⟨ib, iy⟩, ⟨iz, iN⟩, ij⟩ := HI.out
      have ib3 : Row W3 bm 3 [.int .i64 m] := (hk3.2 bm ib.lt (HS.out W' bm rfl)).1.trans ib
      have iy3 : Row W3 W.heap.size 61 [.func (.yield y) #[] #[]] := (hk3.2 W.heap.size iy.lt iN).1.trans iy
      have iN3 := (hk3.2 W.heap.size iy.lt iN).2
      have iz3 := Nat.le_trans iz hk3.1
      have HP := Lib.hid (And.intro hKF (And.intro hKT (And.intro ib3 (And.intro iy3 (And.intro iz3 iN3)))))
      clear hk3 hKF hKT ib3 iy3 iN3 iz3 ib iy iz iN ij
      rcases hpost with ⟨rfl, hj3, _⟩ | ⟨rfl, hjx3, _⟩
      · have HJ3 := Lib.hid hj3
        clear hj3
        gi_wp2
        exact ⟨HP.out.1, HP.out.2.1, ⟨HP.out.2.2.1, HP.out.2.2.2.1⟩, HP.out.2.2.2.2, HJ3.out⟩
      · have HJ3 := Lib.hid hjx3
        clear hjx3
        gi_wp2
        exact ⟨HP.out.1, HP.out.2.1, rfl, HJ3.out⟩
  case done =>
    rintro D W' hD ⟨_, _, hj⟩ hK
    gi_wp2
    refine ⟨by simp, .inl ⟨_, _, rfl, run_takeDeferred hK, ?_⟩⟩
    exact ⟨_, results_none rfl _ _ _, ⟨_, rfl⟩, .inl ((HJ.out.mono hb0.size).putObj hj hD hK rfl)⟩
  case stop =>
    rintro D c pre W' hD hpre ⟨rfl, hjx⟩ hK
    gi_wp2
    refine ⟨by simp, .inl ⟨_, _, rfl, run_takeDeferred hK, ?_⟩⟩
    exact ⟨_, results_none rfl _ _ _, ⟨_, rfl⟩, .inr ⟨_, ofL_prefix m hpre, (HJx.out.mono hb0.size).putObj hjx hD hK rfl⟩⟩
end Go.Proofs.YtheidjnapoipaaaGreatDoor
