/- The walk of OtpTries. -/
import Derived.Test.YtlmbijhkpgolaaaDoorOtpB
import Derived.Test.YtlmbijhkpgolaaaDoorOtpR
namespace Go.Proofs.YtlmbijhkpgolaaaDoor
open Go.RowKit Go.Shelf
set_option linter.unusedVariables false
set_option linter.unusedSimpArgs false
attribute [local go_sem] Oper.semAt_some

/-- What stands behind the last one. -/
def lastS (t o : Int) : List RunI → Int × Int
  | [] => (t, o)
  | y :: p => lastS y.2.1 y.2.2 p
theorem lastS_snoc (x : RunI) : ∀ (p : List RunI) (t o : Int), lastS t o (p ++ [x]) = x.2
  | [], _, _ => rfl
  | y :: p, t, o => lastS_snoc x p y.2.1 y.2.2
def valO (N t o : Int) : Prop := (o = 0 ∧ 1 ≤ t ∧ t ≤ N) ∨ (o = 1 ∧ 1 ≤ t ∧ t ≤ N) ∨ (o = 2 ∧ t = 0)
theorem valO.step {N t o : Int} (c s : ByteArray) (hN : 1 ≤ N) (h : valO N t o) : valO N (stepO c t o s).1 (stepO c t o s).2 := by
  unfold stepO
  by_cases ho : o ≠ 0
  · rw [if_pos ho]; exact h
  · rw [if_neg ho]
    have h1 : 1 ≤ t ∧ t ≤ N := by rcases h with h | h | h <;> omega
    by_cases hc : c = s
    · rw [if_pos hc]; exact .inr (.inl ⟨rfl, h1⟩)
    · rw [if_neg hc]
      by_cases ht : t ≤ 1
      · rw [if_pos ht]; exact .inr (.inr ⟨rfl, rfl⟩)
      · rw [if_neg ht]; exact .inl ⟨rfl, by show 1 ≤ t - 1; omega, by show t - 1 ≤ N; omega⟩
theorem runL_next (c : ByteArray) (N : Int) (hN : 1 ≤ N) (x : RunI) : ∀ (pre : List RunI) (t o : Int) (l : List ByteArray), valO N t o → pre ++ [x] <+: runL c t o l →
    ∃ h : pre.length < l.length, x = (l[pre.length], stepO c (lastS t o pre).1 (lastS t o pre).2 l[pre.length]) ∧ valO N (lastS t o pre).1 (lastS t o pre).2
  | [], t, o, [], hv, hp => by
    have := hp.length_le
    simp [runL] at this
  | [], t, o, s :: l, hv, hp => by
    rw [runL, List.nil_append, List.cons_prefix_cons] at hp
    exact ⟨by simp, hp.1, hv⟩
  | y :: p, t, o, [], hv, hp => by
    have := hp.length_le
    simp [runL] at this
  | y :: p, t, o, s :: l, hv, hp => by
    rw [runL, List.cons_append, List.cons_prefix_cons] at hp
    obtain ⟨rfl, hp⟩ := hp
    obtain ⟨h, h1, h2⟩ := runL_next c N hN x p _ _ l (hv.step c s hN) hp
    exact ⟨by simpa using h, by simpa [lastS] using h1, by simpa [lastS] using h2⟩
theorem min2i {P : Program} (ts : Array TypeId) (t : TypeId) (a b : Int) (W : World) : (Builtin.min_ ts t #[.int .i64 a, .int .i64 b]).run P W = .ok (.int .i64 (min a b)) W := by
  have h : ∀ x y : Int, (if y < x then y else x) = min x y := by intro x y; split <;> omega
  simp [Builtin.min_, Builtin.min2, h]
  try omega
theorem results_boolO {fn : Func} {p : Tmp} (h : fn.results = #[.cell p 4]) (tmps : Array Value) (w : World) (k : Nat) (e : Bool) (hp : tmps.getD p undef = .pointer (some ⟨k, 0, none⟩)) (hk : Row w k 4 [.bool e]) : (results fn tmps).run Tryd.prog w = .ok (.bool e) w := by
  have hp' : tmps[p]?.getD undef = .pointer (some ⟨k, 0, none⟩) := by simpa using hp
  have h2 : (loadVar 4 ⟨k, 0, none⟩).run Tryd.prog w = .ok (.bool e) w := by
    have hc := hk.cell 0
    simp only [List.getElem?_cons_zero] at hc
    simp [loadVar, go_sem, hc]
  simp [results, h, hp', asAddr, h2, Result.andThen]

theorem keepsS_set {S : Nat → Prop} {E : Nat} {W W' : World} (h : KeepsS S E W W') (p : Addr) (v : Value) (h1 : ¬ S p.block) (h2 : p.block < E) : KeepsS S E W (W'.setCell p v) :=
  ⟨by have := h.1; simpa [World.setCell] using this, fun k hk hl => (Below.heap_setCell W' p v k (by intro e; subst e; rcases hk with hk | hk; exact h1 hk; omega)).trans (h.2 k hk hl)⟩
theorem keepsS_refl (S : Nat → Prop) (E : Nat) (W : World) : KeepsS S E W W := ⟨Nat.le_refl _, fun _ _ _ => rfl⟩
theorem keepsF_set {B : Nat} {W W' : World} (h : KeepsFrom B W W') (p : Addr) (v : Value) : KeepsFrom B W (W'.setCell p v) := h.trans ((KeepsOthers.setCell W' p v).from B)

set_option maxRecDepth 100000 in
set_option maxHeartbeats 20000000 in
theorem OtpTries_core (a0 : Int) (a1 : ByteArray) (g off cap : Nat) (A : Option Addr) (l2 : List ByteArray) (hA : 0 < l2.length → A = some ⟨g, off, none⟩) (a3 : Int) (w : World) (h0a : 0 ≤ a0) (h0b : a0 ≤ 255) (h3a : 0 ≤ a3) (h3b : a3 ≤ 255) (hl : l2.length ≤ 30) (hc : a1.size ≤ 60) (hall : ∀ x ∈ l2, x.size ≤ 60) (hg : g < w.heap.size)
    (htx : ∀ j, j < l2.length → w.cell? ⟨g, off + j, none⟩ = some (.string (l2.getD j ByteArray.empty))) (hG : G w) :
    Calls Tryd.prog 4 #[.int .u8 a0, .string a1, .slice A l2.length cap, .int .u8 a3] w fun e w' => e = .returned (.bool true) ∧ Below w.heap.size w w' := by
  obtain ⟨N, hN⟩ : ∃ N, 1 + a0 % 9 = N := ⟨_, rfl⟩
  have hN1 : 1 ≤ N := by omega
  have hN9 : N ≤ 9 := by omega
  have HB : Hid (∀ W : World, Calls Tryd.prog 10 #[.int .i64 N, .int .u64 0, .int .u64 5] W fun e w' => e = .returned (.tuple #[.agg #[.int .i64 N, .int .u64 5, .int .i64 0], .int .i64 0]) ∧ Below W.heap.size W w') := Lib.hid fun W => begin_any N 0 5 W (by omega) (by omega) (by omega) (by omega) (by omega) (by omega)
  have HA : Hid (∀ W, Below w.heap.size w W → Calls Tryd.prog 6 #[] W fun e w' => e = .returned (.bool true) ∧ Below W.heap.size W w') := Lib.hid fun W h => awake21_any W (hG.below h)
  have HT : Hid (∀ W, Below w.heap.size w W → ∀ j, j < l2.length → W.cell? ⟨g, off + j, none⟩ = some (.string (l2.getD j ByteArray.empty))) := Lib.hid fun W h j hj => (h.cell (p := ⟨g, off + j, none⟩) hg).trans (htx j hj)
  have Hall := Lib.hid hall
  have hlI : ¬ (30 : Int) < (l2.length : Int) := by omega
  have hcI : ¬ (60 : Int) < (a1.size : Int) := by omega
  obtain ⟨b, hb⟩ : ∃ b, w.heap.size = b := ⟨_, rfl⟩
  have HBs := Lib.hid hb
  have HR0 : Hid (∀ W, W = (((w.alloc (.cells #[.string a1] 9)).alloc (.cells #[.slice A l2.length cap] 33)).alloc (.cells #[.int .u8 a3] 5)).alloc (.cells #[.bool false] 4) → Row W b 9 [.string a1] ∧ Row W (b + 1) 33 [.slice A l2.length cap] ∧ Row W (b + 2) 5 [.int .u8 a3] ∧ Row W (b + 3) 4 [.bool false] ∧ Below b w W) := Lib.hid fun W hW => by
    subst hW
    subst hb
    have r1 := ((Row.new w 9 [.string a1]).alloc (.cells #[.slice A l2.length cap] 33)).alloc (.cells #[.int .u8 a3] 5) |>.alloc (.cells #[.bool false] 4)
    have r2 := ((Row.new (w.alloc (.cells #[.string a1] 9)) 33 [.slice A l2.length cap]).alloc (.cells #[.int .u8 a3] 5)).alloc (.cells #[.bool false] 4)
    have r3 := (Row.new ((w.alloc (.cells #[.string a1] 9)).alloc (.cells #[.slice A l2.length cap] 33)) 5 [.int .u8 a3]).alloc (.cells #[.bool false] 4)
    have r4 := Row.new (((w.alloc (.cells #[.string a1] 9)).alloc (.cells #[.slice A l2.length cap] 33)).alloc (.cells #[.int .u8 a3] 5)) 4 [.bool false]
    simp only [World.size_alloc] at r2 r3 r4
    exact ⟨r1, r2, r3, r4, ((((Below.refl _ _).alloc (Nat.le_refl _) _).alloc (by simp) _).alloc (by simp; omega) _).alloc (by simp; omega) _⟩
  clear hG htx hall hl hc
  refine (callsIn_wide (n := 6)).1 ?_
  refine callsIn_of_wp_marks Tryd.func4 rfl trivial ?_ rfl
  simp only [Tryd.ntmps4, List.size_toArray, List.length_cons, List.length_nil, Nat.reduceAdd, Nat.reduceSub, Array.replicate_succ, Array.replicate_zero, List.push_toArray, List.append_toArray, List.nil_append, List.cons_append]
  rw [wpIn_wide]
  go_wp2_with fail
  have I0 := Lib.hid (HR0.out _ rfl)
  generalize (((w.alloc (.cells #[.string a1] 9)).alloc (.cells #[.slice A l2.length cap] 33)).alloc (.cells #[.int .u8 a3] 5)).alloc (.cells #[.bool false] 4) = w0 at I0 ⊢
  refine (HA.out _ (by rw [HBs.out]; exact I0.out.2.2.2.2)).mono ?_
  rintro e w1 ⟨rfl, hb1⟩
  have B1 := Lib.hid (I0.out.2.2.2.2.trans (hb1.mono (by have := I0.out.2.2.2.2.size; omega)))
  have I1 := Lib.hid (And.intro (I0.out.1.below hb1 I0.out.1.lt) (And.intro (I0.out.2.1.below hb1 I0.out.2.1.lt) (And.intro (I0.out.2.2.1.below hb1 I0.out.2.2.1.lt) (I0.out.2.2.2.1.below hb1 I0.out.2.2.2.1.lt))))
  have c0 := I1.out.1.cell 0
  have c1 := I1.out.2.1.cell 0
  simp only [List.getElem?_cons_zero] at c0 c1
  have hz1 : b + 3 < w1.heap.size := I1.out.2.2.2.lt
  obtain ⟨q, hq⟩ : ∃ q, w1.heap.size = q := ⟨_, rfl⟩
  have hqb : b + 3 < q := by omega
  have hqb0 : b < q := by omega
  have hqb1 : b + 1 < q := by omega
  have hqb2 : b + 1 + 1 < q := by omega
  clear hb1
  go_wp2_with fail
  have HRq : Hid (∀ W, W = w1.alloc (.cells #[.int .i64 N] 3) → (Row W b 9 [.string a1] ∧ Row W (b + 1) 33 [.slice A l2.length cap] ∧ Row W (b + 2) 5 [.int .u8 a3] ∧ Row W (b + 3) 4 [.bool false]) ∧ Row W q 3 [.int .i64 N] ∧ Below b w W ∧ W.heap.size = q + 1) := Lib.hid fun W hW => by
    subst hW
    refine ⟨⟨I1.out.1.alloc _, I1.out.2.1.alloc _, I1.out.2.2.1.alloc _, I1.out.2.2.2.alloc _⟩, ?_, B1.out.alloc (by omega) _, by simp [hq]⟩
    rw [← hq]; exact Row.new w1 3 [.int .i64 N]
  have I2 := Lib.hid (HRq.out _ rfl)
  clear c0 c1 HRq I0
  generalize w1.alloc (.cells #[.int .i64 N] 3) = w2 at I2 ⊢
  have c0 := I2.out.1.1.cell 0
  have c1 := I2.out.1.2.1.cell 0
  have cN := I2.out.2.1.cell 0
  simp only [List.getElem?_cons_zero] at c0 c1 cN
  have HT2 := Lib.hid (HT.out w2 (by rw [HBs.out]; exact I2.out.2.2.1))
  go_loopw [37] (fun x wr => ∃ k : Nat, k ≤ l2.length ∧ x = .int .i64 k ∧ wr = w2) (fun x _ => l2.length - (intOf x).toNat)
  case atStart => exact ⟨0, by simp⟩
  case round =>
    obtain ⟨k, hk, rfl, rfl⟩ := hrel
    by_cases hlt : k < l2.length
    · have hltI : (k : Int) < (l2.length : Int) := by omega
      obtain rfl := hA (by omega)
      have hs := Hall.out l2[k] (List.getElem_mem hlt)
      have qs := HT2.out k hlt
      rw [List.getD_eq_getElem?_getD, List.getElem?_eq_getElem hlt, Option.getD_some] at qs
      have hsI : ¬ (60 : Int) < (l2[k].size : Int) := by omega
      go_wp2_with fail
      go_roundw
      case rel => exact ⟨k + 1, by omega, by go_num, trivial⟩
      case measure => simp [intOf]; omega
    · have hge : ¬ (k : Int) < (l2.length : Int) := by omega
      go_wp2_with fail
      refine (HB.out _).mono ?_
      rintro e w3 ⟨rfl, hb3⟩
      have B3 : Hid (Below b w w3) := Lib.hid (I2.out.2.2.1.trans (hb3.mono (by have := I2.out.2.1.lt; omega)))
      have I3 := Lib.hid (And.intro (And.intro (I2.out.1.1.below hb3 I2.out.1.1.lt) (And.intro (I2.out.1.2.1.below hb3 I2.out.1.2.1.lt) (And.intro (I2.out.1.2.2.1.below hb3 I2.out.1.2.2.1.lt) (I2.out.1.2.2.2.below hb3 I2.out.1.2.2.2.lt)))) (I2.out.2.1.below hb3 I2.out.2.1.lt))
      obtain ⟨m, hm⟩ : ∃ m, w3.heap.size = m := ⟨_, rfl⟩
      have hqm : q < m := by have := I3.out.2.lt; omega
      have hbm0 : b < m := by omega
      have hbm1 : b + 1 < m := by omega
      have hbm2 : b + 1 + 1 < m := by omega
      have d0 := I3.out.1.1.cell 0
      have d1 := I3.out.1.2.1.cell 0
      have dN := I3.out.2.cell 0
      simp only [List.getElem?_cons_zero] at d0 d1 dN
      clear hb3 c0 c1 cN
      have : b < m + 1 := by omega
      have : b < m + 1 + 1 := by omega
      have : b < m + 1 + 1 + 1 := by omega
      have : b < m + 1 + 1 + 1 + 1 := by omega
      have : b < m + 1 + 1 + 1 + 1 + 1 := by omega
      have : b < m + 1 + 1 + 1 + 1 + 1 + 1 := by omega
      have : b < m + 1 + 1 + 1 + 1 + 1 + 1 + 1 := by omega
      have : b + 1 < m + 1 := by omega
      have : b + 1 < m + 1 + 1 := by omega
      have : b + 1 < m + 1 + 1 + 1 := by omega
      have : b + 1 < m + 1 + 1 + 1 + 1 := by omega
      have : b + 1 < m + 1 + 1 + 1 + 1 + 1 := by omega
      have : b + 1 < m + 1 + 1 + 1 + 1 + 1 + 1 := by omega
      have : b + 1 < m + 1 + 1 + 1 + 1 + 1 + 1 + 1 := by omega
      have : b + 1 + 1 < m + 1 := by omega
      have : b + 1 + 1 < m + 1 + 1 := by omega
      have : b + 1 + 1 < m + 1 + 1 + 1 := by omega
      have : b + 1 + 1 < m + 1 + 1 + 1 + 1 := by omega
      have : b + 1 + 1 < m + 1 + 1 + 1 + 1 + 1 := by omega
      have : b + 1 + 1 < m + 1 + 1 + 1 + 1 + 1 + 1 := by omega
      have : b + 1 + 1 < m + 1 + 1 + 1 + 1 + 1 + 1 + 1 := by omega
      have : q < m + 1 := by omega
      have : q < m + 1 + 1 := by omega
      have : q < m + 1 + 1 + 1 := by omega
      have : q < m + 1 + 1 + 1 + 1 := by omega
      have : q < m + 1 + 1 + 1 + 1 + 1 := by omega
      have : q < m + 1 + 1 + 1 + 1 + 1 + 1 := by omega
      have : q < m + 1 + 1 + 1 + 1 + 1 + 1 + 1 := by omega
      have HRm : Hid (∀ W, W = (((((((w3.alloc (.cells #[.int .i64 N, .int .u64 5, .int .i64 0] 24)).alloc (.cells #[.int .i64 0] 3)).alloc (.cells #[.bool false] 4)).alloc (.cells #[.int .i64 0] 3)).alloc (.cells #[.int .i64 N, .int .u64 5, .int .i64 0] 24)).alloc (.cells #[.int .i64 N, .int .u64 5, .int .i64 0] 24)).alloc (.cells #[.string a1] 9)).alloc (.cells #[.slice A l2.length cap] 33) → Row W (b) 9 [.string a1] ∧ Row W (b + 1) 33 [.slice A l2.length cap] ∧ Row W (b + 1 + 1) 5 [.int .u8 a3] ∧ Row W (b + 1 + 1 + 1) 4 [.bool false] ∧ Row W (q) 3 [.int .i64 N] ∧ Row W (m) 24 [.int .i64 N, .int .u64 5, .int .i64 0] ∧ Row W (m + 1) 3 [.int .i64 0] ∧ Row W (m + 1 + 1) 4 [.bool false] ∧ Row W (m + 1 + 1 + 1) 3 [.int .i64 0] ∧ Row W (m + 1 + 1 + 1 + 1) 24 [.int .i64 N, .int .u64 5, .int .i64 0] ∧ Row W (m + 1 + 1 + 1 + 1 + 1) 24 [.int .i64 N, .int .u64 5, .int .i64 0] ∧ Row W (m + 1 + 1 + 1 + 1 + 1 + 1) 9 [.string a1] ∧ Row W (m + 1 + 1 + 1 + 1 + 1 + 1 + 1) 33 [.slice A l2.length cap] ∧ Below b w W ∧ W.heap.size = m + 8) := Lib.hid fun W hW => by
        subst hW
        have z0 : w3.heap.size = m := hm
        have e0 := Row.new w3 24 [.int .i64 N, .int .u64 5, .int .i64 0]
        rw [z0] at e0
        have r0_0 := I3.out.1.1.alloc (.cells #[.int .i64 N, .int .u64 5, .int .i64 0] 24)
        have r0_1 := I3.out.1.2.1.alloc (.cells #[.int .i64 N, .int .u64 5, .int .i64 0] 24)
        have r0_2 := I3.out.1.2.2.1.alloc (.cells #[.int .i64 N, .int .u64 5, .int .i64 0] 24)
        have r0_3 := I3.out.1.2.2.2.alloc (.cells #[.int .i64 N, .int .u64 5, .int .i64 0] 24)
        have r0_4 := I3.out.2.alloc (.cells #[.int .i64 N, .int .u64 5, .int .i64 0] 24)
        have z1 : (w3.alloc (.cells #[.int .i64 N, .int .u64 5, .int .i64 0] 24)).heap.size = m + 1 := by rw [World.size_alloc, z0]
        have bb0 := B3.out.alloc (by have := B3.out.size; omega : b ≤ w3.heap.size) (.cells #[.int .i64 N, .int .u64 5, .int .i64 0] 24)
        generalize w3.alloc (.cells #[.int .i64 N, .int .u64 5, .int .i64 0] 24) = x1 at r0_0 r0_1 r0_2 r0_3 r0_4 e0 z1 bb0 ⊢
        have e1 := Row.new x1 3 [.int .i64 0]
        rw [z1] at e1
        have r1_0 := r0_0.alloc (.cells #[.int .i64 0] 3)
        have r1_1 := r0_1.alloc (.cells #[.int .i64 0] 3)
        have r1_2 := r0_2.alloc (.cells #[.int .i64 0] 3)
        have r1_3 := r0_3.alloc (.cells #[.int .i64 0] 3)
        have r1_4 := r0_4.alloc (.cells #[.int .i64 0] 3)
        have r1_5 := e0.alloc (.cells #[.int .i64 0] 3)
        have z2 : (x1.alloc (.cells #[.int .i64 0] 3)).heap.size = m + 1 + 1 := by rw [World.size_alloc, z1]
        have bb1 := bb0.alloc (by have := B3.out.size; omega : b ≤ x1.heap.size) (.cells #[.int .i64 0] 3)
        generalize x1.alloc (.cells #[.int .i64 0] 3) = x2 at r1_0 r1_1 r1_2 r1_3 r1_4 r1_5 e1 z2 bb1 ⊢
        have e2 := Row.new x2 4 [.bool false]
        rw [z2] at e2
        have r2_0 := r1_0.alloc (.cells #[.bool false] 4)
        have r2_1 := r1_1.alloc (.cells #[.bool false] 4)
        have r2_2 := r1_2.alloc (.cells #[.bool false] 4)
        have r2_3 := r1_3.alloc (.cells #[.bool false] 4)
        have r2_4 := r1_4.alloc (.cells #[.bool false] 4)
        have r2_5 := r1_5.alloc (.cells #[.bool false] 4)
        have r2_6 := e1.alloc (.cells #[.bool false] 4)
        have z3 : (x2.alloc (.cells #[.bool false] 4)).heap.size = m + 1 + 1 + 1 := by rw [World.size_alloc, z2]
        have bb2 := bb1.alloc (by have := B3.out.size; omega : b ≤ x2.heap.size) (.cells #[.bool false] 4)
        generalize x2.alloc (.cells #[.bool false] 4) = x3 at r2_0 r2_1 r2_2 r2_3 r2_4 r2_5 r2_6 e2 z3 bb2 ⊢
        have e3 := Row.new x3 3 [.int .i64 0]
        rw [z3] at e3
        have r3_0 := r2_0.alloc (.cells #[.int .i64 0] 3)
        have r3_1 := r2_1.alloc (.cells #[.int .i64 0] 3)
        have r3_2 := r2_2.alloc (.cells #[.int .i64 0] 3)
        have r3_3 := r2_3.alloc (.cells #[.int .i64 0] 3)
        have r3_4 := r2_4.alloc (.cells #[.int .i64 0] 3)
        have r3_5 := r2_5.alloc (.cells #[.int .i64 0] 3)
        have r3_6 := r2_6.alloc (.cells #[.int .i64 0] 3)
        have r3_7 := e2.alloc (.cells #[.int .i64 0] 3)
        have z4 : (x3.alloc (.cells #[.int .i64 0] 3)).heap.size = m + 1 + 1 + 1 + 1 := by rw [World.size_alloc, z3]
        have bb3 := bb2.alloc (by have := B3.out.size; omega : b ≤ x3.heap.size) (.cells #[.int .i64 0] 3)
        generalize x3.alloc (.cells #[.int .i64 0] 3) = x4 at r3_0 r3_1 r3_2 r3_3 r3_4 r3_5 r3_6 r3_7 e3 z4 bb3 ⊢
        have e4 := Row.new x4 24 [.int .i64 N, .int .u64 5, .int .i64 0]
        rw [z4] at e4
        have r4_0 := r3_0.alloc (.cells #[.int .i64 N, .int .u64 5, .int .i64 0] 24)
        have r4_1 := r3_1.alloc (.cells #[.int .i64 N, .int .u64 5, .int .i64 0] 24)
        have r4_2 := r3_2.alloc (.cells #[.int .i64 N, .int .u64 5, .int .i64 0] 24)
        have r4_3 := r3_3.alloc (.cells #[.int .i64 N, .int .u64 5, .int .i64 0] 24)
        have r4_4 := r3_4.alloc (.cells #[.int .i64 N, .int .u64 5, .int .i64 0] 24)
        have r4_5 := r3_5.alloc (.cells #[.int .i64 N, .int .u64 5, .int .i64 0] 24)
        have r4_6 := r3_6.alloc (.cells #[.int .i64 N, .int .u64 5, .int .i64 0] 24)
        have r4_7 := r3_7.alloc (.cells #[.int .i64 N, .int .u64 5, .int .i64 0] 24)
        have r4_8 := e3.alloc (.cells #[.int .i64 N, .int .u64 5, .int .i64 0] 24)
        have z5 : (x4.alloc (.cells #[.int .i64 N, .int .u64 5, .int .i64 0] 24)).heap.size = m + 1 + 1 + 1 + 1 + 1 := by rw [World.size_alloc, z4]
        have bb4 := bb3.alloc (by have := B3.out.size; omega : b ≤ x4.heap.size) (.cells #[.int .i64 N, .int .u64 5, .int .i64 0] 24)
        generalize x4.alloc (.cells #[.int .i64 N, .int .u64 5, .int .i64 0] 24) = x5 at r4_0 r4_1 r4_2 r4_3 r4_4 r4_5 r4_6 r4_7 r4_8 e4 z5 bb4 ⊢
        have e5 := Row.new x5 24 [.int .i64 N, .int .u64 5, .int .i64 0]
        rw [z5] at e5
        have r5_0 := r4_0.alloc (.cells #[.int .i64 N, .int .u64 5, .int .i64 0] 24)
        have r5_1 := r4_1.alloc (.cells #[.int .i64 N, .int .u64 5, .int .i64 0] 24)
        have r5_2 := r4_2.alloc (.cells #[.int .i64 N, .int .u64 5, .int .i64 0] 24)
        have r5_3 := r4_3.alloc (.cells #[.int .i64 N, .int .u64 5, .int .i64 0] 24)
        have r5_4 := r4_4.alloc (.cells #[.int .i64 N, .int .u64 5, .int .i64 0] 24)
        have r5_5 := r4_5.alloc (.cells #[.int .i64 N, .int .u64 5, .int .i64 0] 24)
        have r5_6 := r4_6.alloc (.cells #[.int .i64 N, .int .u64 5, .int .i64 0] 24)
        have r5_7 := r4_7.alloc (.cells #[.int .i64 N, .int .u64 5, .int .i64 0] 24)
        have r5_8 := r4_8.alloc (.cells #[.int .i64 N, .int .u64 5, .int .i64 0] 24)
        have r5_9 := e4.alloc (.cells #[.int .i64 N, .int .u64 5, .int .i64 0] 24)
        have z6 : (x5.alloc (.cells #[.int .i64 N, .int .u64 5, .int .i64 0] 24)).heap.size = m + 1 + 1 + 1 + 1 + 1 + 1 := by rw [World.size_alloc, z5]
        have bb5 := bb4.alloc (by have := B3.out.size; omega : b ≤ x5.heap.size) (.cells #[.int .i64 N, .int .u64 5, .int .i64 0] 24)
        generalize x5.alloc (.cells #[.int .i64 N, .int .u64 5, .int .i64 0] 24) = x6 at r5_0 r5_1 r5_2 r5_3 r5_4 r5_5 r5_6 r5_7 r5_8 r5_9 e5 z6 bb5 ⊢
        have e6 := Row.new x6 9 [.string a1]
        rw [z6] at e6
        have r6_0 := r5_0.alloc (.cells #[.string a1] 9)
        have r6_1 := r5_1.alloc (.cells #[.string a1] 9)
        have r6_2 := r5_2.alloc (.cells #[.string a1] 9)
        have r6_3 := r5_3.alloc (.cells #[.string a1] 9)
        have r6_4 := r5_4.alloc (.cells #[.string a1] 9)
        have r6_5 := r5_5.alloc (.cells #[.string a1] 9)
        have r6_6 := r5_6.alloc (.cells #[.string a1] 9)
        have r6_7 := r5_7.alloc (.cells #[.string a1] 9)
        have r6_8 := r5_8.alloc (.cells #[.string a1] 9)
        have r6_9 := r5_9.alloc (.cells #[.string a1] 9)
        have r6_10 := e5.alloc (.cells #[.string a1] 9)
        have z7 : (x6.alloc (.cells #[.string a1] 9)).heap.size = m + 1 + 1 + 1 + 1 + 1 + 1 + 1 := by rw [World.size_alloc, z6]
        have bb6 := bb5.alloc (by have := B3.out.size; omega : b ≤ x6.heap.size) (.cells #[.string a1] 9)
        generalize x6.alloc (.cells #[.string a1] 9) = x7 at r6_0 r6_1 r6_2 r6_3 r6_4 r6_5 r6_6 r6_7 r6_8 r6_9 r6_10 e6 z7 bb6 ⊢
        have e7 := Row.new x7 33 [.slice A l2.length cap]
        rw [z7] at e7
        have r7_0 := r6_0.alloc (.cells #[.slice A l2.length cap] 33)
        have r7_1 := r6_1.alloc (.cells #[.slice A l2.length cap] 33)
        have r7_2 := r6_2.alloc (.cells #[.slice A l2.length cap] 33)
        have r7_3 := r6_3.alloc (.cells #[.slice A l2.length cap] 33)
        have r7_4 := r6_4.alloc (.cells #[.slice A l2.length cap] 33)
        have r7_5 := r6_5.alloc (.cells #[.slice A l2.length cap] 33)
        have r7_6 := r6_6.alloc (.cells #[.slice A l2.length cap] 33)
        have r7_7 := r6_7.alloc (.cells #[.slice A l2.length cap] 33)
        have r7_8 := r6_8.alloc (.cells #[.slice A l2.length cap] 33)
        have r7_9 := r6_9.alloc (.cells #[.slice A l2.length cap] 33)
        have r7_10 := r6_10.alloc (.cells #[.slice A l2.length cap] 33)
        have r7_11 := e6.alloc (.cells #[.slice A l2.length cap] 33)
        have z8 : (x7.alloc (.cells #[.slice A l2.length cap] 33)).heap.size = m + 1 + 1 + 1 + 1 + 1 + 1 + 1 + 1 := by rw [World.size_alloc, z7]
        have bb7 := bb6.alloc (by have := B3.out.size; omega : b ≤ x7.heap.size) (.cells #[.slice A l2.length cap] 33)
        generalize x7.alloc (.cells #[.slice A l2.length cap] 33) = x8 at r7_0 r7_1 r7_2 r7_3 r7_4 r7_5 r7_6 r7_7 r7_8 r7_9 r7_10 r7_11 e7 z8 bb7 ⊢
        exact ⟨r7_0, r7_1, r7_2, r7_3, r7_4, r7_5, r7_6, r7_7, r7_8, r7_9, r7_10, r7_11, e7, bb7, by omega⟩
      go_wp2_with fail
      refine (run_any _ _ _ _ _ _ _ _).mono ?_
      rintro e w4 ⟨rfl, rfl⟩
      go_wp2_with fail
      have HI0 := Lib.hid (HRm.out _ rfl)
      clear HRm d0 d1 dN
      generalize (((((((w3.alloc (.cells #[.int .i64 N, .int .u64 5, .int .i64 0] 24)).alloc (.cells #[.int .i64 0] 3)).alloc (.cells #[.bool false] 4)).alloc (.cells #[.int .i64 0] 3)).alloc (.cells #[.int .i64 N, .int .u64 5, .int .i64 0] 24)).alloc (.cells #[.int .i64 N, .int .u64 5, .int .i64 0] 24)).alloc (.cells #[.string a1] 9)).alloc (.cells #[.slice A l2.length cap] 33) = W0 at HI0 ⊢
      obtain ⟨z0, hB0⟩ : W0.heap.size = m + 8 ∧ Below b w W0 := ⟨HI0.out.2.2.2.2.2.2.2.2.2.2.2.2.2.2, HI0.out.2.2.2.2.2.2.2.2.2.2.2.2.2.1⟩
      have HRun : Hid (RunAt W0 (m + 1 + 1 + 1 + 1 + 1) (m + 1 + 1 + 1 + 1 + 1 + 1 + 1) (m + 1 + 1 + 1 + 1 + 1 + 1) g off cap A N 5 0 a1 l2) := Lib.hid ⟨HI0.out.2.2.2.2.2.2.2.2.2.2.1, HI0.out.2.2.2.2.2.2.2.2.2.2.2.2.1, HI0.out.2.2.2.2.2.2.2.2.2.2.2.1, by omega, HT.out W0 (by rw [HBs.out]; exact hB0)⟩
      have HI1 : Hid ((fun (pre : List RunI) W => Row W (b) 9 [.string a1] ∧ Row W (b + 1) 33 [.slice A l2.length cap] ∧ Row W (b + 1 + 1) 5 [.int .u8 a3] ∧ Row W (b + 1 + 1 + 1) 4 [.bool false] ∧ Row W (q) 3 [.int .i64 N] ∧ Row W (m) 24 [.int .i64 N, .int .u64 5, .int .i64 0] ∧ Row W (m + 1) 3 [.int .i64 (N - (lastS N 0 pre).1)] ∧ Row W (m + 1 + 1) 4 [.bool (decide ((lastS N 0 pre).2 = 1))] ∧ Row W (m + 1 + 1 + 1) 3 [.int .i64 (pre.length : Nat)] ∧ Row W (m + 1 + 1 + 1 + 1) 24 [.int .i64 (lastS N 0 pre).1, .int .u64 5, .int .i64 (lastS N 0 pre).2] ∧ Below b w W) [] W0) := Lib.hid ⟨HI0.out.1, HI0.out.2.1, HI0.out.2.2.1, HI0.out.2.2.2.1, HI0.out.2.2.2.2.1, HI0.out.2.2.2.2.2.1, by have := HI0.out.2.2.2.2.2.2.1; simpa [lastS] using this, HI0.out.2.2.2.2.2.2.2.1, HI0.out.2.2.2.2.2.2.2.2.1, HI0.out.2.2.2.2.2.2.2.2.2.1, hB0⟩
      have hKb : ∀ (W : World) (o' : Obj), KeepsS (RunS (m + 1 + 1 + 1 + 1 + 1) (m + 1 + 1 + 1 + 1 + 1 + 1 + 1) (m + 1 + 1 + 1 + 1 + 1 + 1) g) (W0.heap.size + 2) W (W.putObj (W0.heap.size + 1) o') := keepsS_b (by unfold RunS; omega) (by omega)
      rw [← wpIn_wide (n := 6)]
      refine' range_pre rfl (by omega) (gf := 19) (lb := #[.pointer (some ⟨m + 1 + 1 + 1 + 1 + 1, 0, none⟩), .pointer (some ⟨m + 1 + 1 + 1 + 1 + 1 + 1 + 1, 0, none⟩), .pointer (some ⟨m + 1 + 1 + 1 + 1 + 1 + 1, 0, none⟩)]) rfl trivial (enters_of Tryd.func19 (by kernel_rfl) rfl)
        (run_stops 5 (by omega) _ _ _ g off cap A N 5 0 a1 l2 hA (by omega) (by omega) (by omega) ⟨fun _ => hN1, hN9⟩ W0 HRun.out) (fun _ _ => trivial) keepsS_t hKb (Below.refl _ _) (fun _ => rfl)
        (fun pre W => Row W (b) 9 [.string a1] ∧ Row W (b + 1) 33 [.slice A l2.length cap] ∧ Row W (b + 1 + 1) 5 [.int .u8 a3] ∧ Row W (b + 1 + 1 + 1) 4 [.bool false] ∧ Row W (q) 3 [.int .i64 N] ∧ Row W (m) 24 [.int .i64 N, .int .u64 5, .int .i64 0] ∧ Row W (m + 1) 3 [.int .i64 (N - (lastS N 0 pre).1)] ∧ Row W (m + 1 + 1) 4 [.bool (decide ((lastS N 0 pre).2 = 1))] ∧ Row W (m + 1 + 1 + 1) 3 [.int .i64 (pre.length : Nat)] ∧ Row W (m + 1 + 1 + 1 + 1) 24 [.int .i64 (lastS N 0 pre).1, .int .u64 5, .int .i64 (lastS N 0 pre).2] ∧ Below b w W)
        (fun _ _ _ => False)
        (OwnK.and (OwnK.low (fun (_ : List RunI) => b) (fun (pre : List RunI) => .cells [.string a1].toArray 9 (0, 0)) (fun _ => by omega)) (OwnK.and (OwnK.low (fun (_ : List RunI) => b + 1) (fun (pre : List RunI) => .cells [.slice A l2.length cap].toArray 33 (0, 0)) (fun _ => by omega)) (OwnK.and (OwnK.low (fun (_ : List RunI) => b + 1 + 1) (fun (pre : List RunI) => .cells [.int .u8 a3].toArray 5 (0, 0)) (fun _ => by omega)) (OwnK.and (OwnK.low (fun (_ : List RunI) => b + 1 + 1 + 1) (fun (pre : List RunI) => .cells [.bool false].toArray 4 (0, 0)) (fun _ => by omega)) (OwnK.and (OwnK.low (fun (_ : List RunI) => q) (fun (pre : List RunI) => .cells [.int .i64 N].toArray 3 (0, 0)) (fun _ => by omega)) (OwnK.and (OwnK.low (fun (_ : List RunI) => m) (fun (pre : List RunI) => .cells [.int .i64 N, .int .u64 5, .int .i64 0].toArray 24 (0, 0)) (fun _ => by omega)) (OwnK.and (OwnK.low (fun (_ : List RunI) => m + 1) (fun (pre : List RunI) => .cells [.int .i64 (N - (lastS N 0 pre).1)].toArray 3 (0, 0)) (fun _ => by omega)) (OwnK.and (OwnK.low (fun (_ : List RunI) => m + 1 + 1) (fun (pre : List RunI) => .cells [.bool (decide ((lastS N 0 pre).2 = 1))].toArray 4 (0, 0)) (fun _ => by omega)) (OwnK.and (OwnK.low (fun (_ : List RunI) => m + 1 + 1 + 1) (fun (pre : List RunI) => .cells [.int .i64 (pre.length : Nat)].toArray 3 (0, 0)) (fun _ => by omega)) (OwnK.and (OwnK.low (fun (_ : List RunI) => m + 1 + 1 + 1 + 1) (fun (pre : List RunI) => .cells [.int .i64 (lastS N 0 pre).1, .int .u64 5, .int .i64 (lastS N 0 pre).2].toArray 24 (0, 0)) (fun _ => by omega)) (OwnK.below (by omega) (by omega))))))))))))
        (fun c => OwnK.pure)
        HI1.out
        (fun x a' W => ∃ Bx, Row W Bx 24 [.int .i64 x.2.1, .int .u64 5, .int .i64 x.2.2] ∧ m + 10 ≤ Bx ∧ a' = { tmps := (List.toArray (Value.int IntKind.u8 a0 :: Value.string a1 :: Value.slice A l2.length cap :: Value.int IntKind.u8 a3 :: undef :: Value.pointer (some { block := b, off := 0 }) :: Value.pointer (some { block := b + 1, off := 0 }) :: Value.pointer (some { block := b + 1 + 1, off := 0 }) :: Value.pointer (some { block := b + 1 + 1 + 1, off := 0 }) :: Value.pointer (some { block := q, off := 0 }) :: undef :: u11 :: Value.pointer (some { block := m, off := 0 }) :: Value.int IntKind.i64 0 :: Value.pointer (some { block := m + 1, off := 0 }) :: Value.pointer (some { block := m + 1 + 1, off := 0 }) :: Value.pointer (some { block := m + 1 + 1 + 1, off := 0 }) :: Value.pointer (some { block := m + 1 + 1 + 1 + 1, off := 0 }) :: .string x.1 :: .pointer (some ⟨Bx, 0, none⟩) :: undef :: Value.bool true :: Value.bool false :: Value.slice A l2.length cap :: Value.int IntKind.i64 ↑l2.length :: Value.bool (decide ((30 : Int) < ↑l2.length)) :: Value.bool (decide ((30 : Int) < ↑l2.length)) :: Value.string a1 :: Value.int IntKind.i64 ↑a1.size :: Value.bool (decide ((60 : Int) < ↑a1.size)) :: Value.bool (decide ((30 : Int) < ↑l2.length) || decide ((60 : Int) < ↑a1.size)) :: Value.int IntKind.u8 a0 :: Value.int IntKind.u8 (a0 % 9) :: Value.int IntKind.i64 (a0 % 9) :: Value.int IntKind.i64 N :: Value.slice A l2.length cap :: Value.int IntKind.i64 ↑l2.length :: Value.int IntKind.i64 ↑k :: Value.bool false :: u39 :: u40 :: u41 :: u42 :: u43 :: u44 :: Value.tuple #[Value.agg #[Value.int IntKind.i64 N, Value.int IntKind.u64 5, Value.int IntKind.i64 0], Value.int IntKind.i64 0] :: Value.int IntKind.i64 N :: Value.tuple #[Value.agg #[Value.int IntKind.i64 N, Value.int IntKind.u64 5, Value.int IntKind.i64 0], Value.int IntKind.i64 0] :: Value.agg #[Value.int IntKind.i64 N, Value.int IntKind.u64 5, Value.int IntKind.i64 0] :: Value.int IntKind.i64 0 :: Value.agg #[Value.int IntKind.i64 N, Value.int IntKind.u64 5, Value.int IntKind.i64 0] :: Value.agg #[Value.int IntKind.i64 N, Value.int IntKind.u64 5, Value.int IntKind.i64 0] :: Value.string a1 :: Value.slice A l2.length cap :: Value.func (Fn.func 19) #[] #[Value.pointer (some { block := m + 1 + 1 + 1 + 1 + 1, off := 0 }), Value.pointer (some { block := m + 1 + 1 + 1 + 1 + 1 + 1 + 1, off := 0 }), Value.pointer (some { block := m + 1 + 1 + 1 + 1 + 1 + 1, off := 0 })] :: .string x.1 :: .agg #[.int .i64 x.2.1, .int .u64 5, .int .i64 x.2.2] :: undef :: undef :: undef :: undef :: undef :: undef :: undef :: undef :: undef :: undef :: undef :: undef :: undef :: undef :: undef :: undef :: undef :: undef :: undef :: undef :: undef :: undef :: undef :: undef :: undef :: undef :: undef :: undef :: undef :: undef :: undef :: undef :: undef :: undef :: undef :: undef :: undef :: undef :: undef :: undef :: undef :: undef :: undef :: undef :: undef :: undef :: undef :: undef :: undef :: undef :: undef :: undef :: undef :: undef :: undef :: undef :: undef :: undef :: undef :: undef :: undef :: undef :: undef :: undef :: undef :: undef :: undef :: undef :: undef :: undef :: undef :: undef :: undef :: undef :: undef :: undef :: undef :: undef :: undef :: undef :: undef :: undef :: [])), defers := [] })
        ?hAp ?hassign ?hbody ?hdone ?hstop
      case hAp =>
        rintro x a' W o' ⟨Bx, h1, h2, h3⟩
        exact ⟨Bx, (World.putObj_heap_other (by omega)).trans h1, h2, h3⟩
      case hassign =>
        intro y pre x W K' hI hpre hsz hK'
        obtain ⟨x1, x2, x3⟩ := x
        dsimp only [encR] at hK' ⊢
        gi_wp2
        exact hK' _ _ ((KeepsOthers.alloc _ _).from _) ⟨by simp, fun k hk hl => Below.heap_alloc W _ k hl⟩ (by
          obtain ⟨b0, b1, b2, b3, bq, bm, v1, v2, v3, v4, hB⟩ := hI
          exact ⟨b0.alloc _, b1.alloc _, b2.alloc _, b3.alloc _, bq.alloc _, bm.alloc _, v1.alloc _, v2.alloc _, v3.alloc _, v4.alloc _, hB.alloc (by have := v4.lt; omega) _⟩) ⟨W.heap.size, Row.new W _ [.int .i64 x2, .int .u64 5, .int .i64 x3], by omega, rfl⟩
      case hbody =>
        rintro y pre x a' W hI hpre hsz ⟨Bx, rBx, hBx, rfl⟩
        obtain ⟨hk, hx, hv⟩ := runL_next a1 N hN1 x pre N 0 l2 (.inl ⟨rfl, hN1, Int.le_refl _⟩) hpre
        obtain rfl := hA (by omega)
        obtain ⟨T, hT⟩ : ∃ T, (lastS N 0 pre).1 = T := ⟨_, rfl⟩
        obtain ⟨O, hO⟩ : ∃ T, (lastS N 0 pre).2 = T := ⟨_, rfl⟩
        obtain ⟨K, hK⟩ : ∃ T, pre.length = T := ⟨_, rfl⟩
        have hls := lastS_snoc x pre N 0
        simp only [hT, hO, hK] at hI hx hv hk
        obtain ⟨b0, b1, b2, b3, bq, bm, v1, v2, v3, v4, hB⟩ := hI
        have HTW := HT.out W (by rw [HBs.out]; exact hB) K hk
        rw [List.getD_eq_getElem?_getD, List.getElem?_eq_getElem hk, Option.getD_some] at HTW
        obtain ⟨S, hS⟩ : ∃ S, l2[K] = S := ⟨_, rfl⟩
        rw [hS] at HTW hx
        subst hx
        have cb0_0 := b0.cell 0
        have cb1_0 := b1.cell 0
        have cb2_0 := b2.cell 0
        have cb3_0 := b3.cell 0
        have cbq_0 := bq.cell 0
        have cv1_0 := v1.cell 0
        have cv2_0 := v2.cell 0
        have cv3_0 := v3.cell 0
        have cv4_0 := v4.cell 0
        have cv4_1 := v4.cell 1
        have cv4_2 := v4.cell 2
        have crBx_0 := rBx.cell 0
        have crBx_1 := rBx.cell 1
        have crBx_2 := rBx.cell 2
        simp only [List.getElem?_cons_zero, List.getElem?_cons_succ] at cb0_0 cb1_0 cb2_0 cb3_0 cbq_0 cv1_0 cv2_0 cv3_0 cv4_0 cv4_1 cv4_2 crBx_0 crBx_1 crBx_2
        have fv1_0 := v1.frozen 0
        have fv2_0 := v2.frozen 0
        have fv3_0 := v3.frozen 0
        have fv4_0 := v4.frozen 0
        have fv4_1 := v4.frozen 1
        have fv4_2 := v4.frozen 2
        have HS := Lib.hid hS
        have HI := Lib.hid (And.intro b0 (And.intro b1 (And.intro b2 (And.intro b3 (And.intro bq (And.intro bm (And.intro v1 (And.intro v2 (And.intro v3 (And.intro v4 hB))))))))))
        have hszW : m + 10 ≤ W.heap.size := by omega
        clear hpre b0 b1 b2 b3 bq bm v1 v2 v3 v4 hB hS
        have hlen : (pre ++ [(S, stepO a1 T O S)]).length = K + 1 := by rw [List.length_append, hK]; rfl
        have hkI : (K : Int) < (l2.length : Int) := by omega
        have hkG : ¬ (l2.length : Int) ≤ (K : Int) := by omega
        have hK31 : (K : Int) < 31 := by omega
        have HBx := Lib.hid rBx
        have hbw : b < W.heap.size := HI.out.1.lt
        have hbw1 : b + 1 < W.heap.size := HI.out.2.1.lt
        have hqw : q < W.heap.size := HI.out.2.2.2.2.1.lt
        have hm1w : m + 1 < W.heap.size := by omega
        have hm2w : m + 1 + 1 < W.heap.size := by omega
        have hm3w : m + 1 + 1 + 1 < W.heap.size := by omega
        have hm4w : m + 1 + 1 + 1 + 1 < W.heap.size := by omega
        have hlen31 : (l2.length : Int) < 31 := by omega
        have N0_1 : Hid (b ≠ m + 1) := Lib.hid (by omega)
        have N0_2 : Hid (b ≠ m + 1 + 1) := Lib.hid (by omega)
        have N0_3 : Hid (b ≠ m + 1 + 1 + 1) := Lib.hid (by omega)
        have N0_4 : Hid (b ≠ m + 1 + 1 + 1 + 1) := Lib.hid (by omega)
        have N1_1 : Hid (b + 1 ≠ m + 1) := Lib.hid (by omega)
        have N1_2 : Hid (b + 1 ≠ m + 1 + 1) := Lib.hid (by omega)
        have N1_3 : Hid (b + 1 ≠ m + 1 + 1 + 1) := Lib.hid (by omega)
        have N1_4 : Hid (b + 1 ≠ m + 1 + 1 + 1 + 1) := Lib.hid (by omega)
        have N2_1 : Hid (b + 1 + 1 ≠ m + 1) := Lib.hid (by omega)
        have N2_2 : Hid (b + 1 + 1 ≠ m + 1 + 1) := Lib.hid (by omega)
        have N2_3 : Hid (b + 1 + 1 ≠ m + 1 + 1 + 1) := Lib.hid (by omega)
        have N2_4 : Hid (b + 1 + 1 ≠ m + 1 + 1 + 1 + 1) := Lib.hid (by omega)
        have N3_1 : Hid (b + 1 + 1 + 1 ≠ m + 1) := Lib.hid (by omega)
        have N3_2 : Hid (b + 1 + 1 + 1 ≠ m + 1 + 1) := Lib.hid (by omega)
        have N3_3 : Hid (b + 1 + 1 + 1 ≠ m + 1 + 1 + 1) := Lib.hid (by omega)
        have N3_4 : Hid (b + 1 + 1 + 1 ≠ m + 1 + 1 + 1 + 1) := Lib.hid (by omega)
        have N4_1 : Hid (q ≠ m + 1) := Lib.hid (by omega)
        have N4_2 : Hid (q ≠ m + 1 + 1) := Lib.hid (by omega)
        have N4_3 : Hid (q ≠ m + 1 + 1 + 1) := Lib.hid (by omega)
        have N4_4 : Hid (q ≠ m + 1 + 1 + 1 + 1) := Lib.hid (by omega)
        have N5_1 : Hid (m ≠ m + 1) := Lib.hid (by omega)
        have N5_2 : Hid (m ≠ m + 1 + 1) := Lib.hid (by omega)
        have N5_3 : Hid (m ≠ m + 1 + 1 + 1) := Lib.hid (by omega)
        have N5_4 : Hid (m ≠ m + 1 + 1 + 1 + 1) := Lib.hid (by omega)
        have N6_2 : Hid (m + 1 ≠ m + 1 + 1) := Lib.hid (by omega)
        have N6_3 : Hid (m + 1 ≠ m + 1 + 1 + 1) := Lib.hid (by omega)
        have N6_4 : Hid (m + 1 ≠ m + 1 + 1 + 1 + 1) := Lib.hid (by omega)
        have N7_1 : Hid (m + 1 + 1 ≠ m + 1) := Lib.hid (by omega)
        have N7_3 : Hid (m + 1 + 1 ≠ m + 1 + 1 + 1) := Lib.hid (by omega)
        have N7_4 : Hid (m + 1 + 1 ≠ m + 1 + 1 + 1 + 1) := Lib.hid (by omega)
        have N8_1 : Hid (m + 1 + 1 + 1 ≠ m + 1) := Lib.hid (by omega)
        have N8_2 : Hid (m + 1 + 1 + 1 ≠ m + 1 + 1) := Lib.hid (by omega)
        have N8_4 : Hid (m + 1 + 1 + 1 ≠ m + 1 + 1 + 1 + 1) := Lib.hid (by omega)
        have N9_1 : Hid (m + 1 + 1 + 1 + 1 ≠ m + 1) := Lib.hid (by omega)
        have N9_2 : Hid (m + 1 + 1 + 1 + 1 ≠ m + 1 + 1) := Lib.hid (by omega)
        have N9_3 : Hid (m + 1 + 1 + 1 + 1 ≠ m + 1 + 1 + 1) := Lib.hid (by omega)
        have B1s : Hid (b ≤ m + 1) := Lib.hid (by omega)
        have E1s : Hid (m + 1 < m + 8 + 2) := Lib.hid (by omega)
        have S1s : Hid (¬ RunS (m + 1 + 1 + 1 + 1 + 1) (m + 1 + 1 + 1 + 1 + 1 + 1 + 1) (m + 1 + 1 + 1 + 1 + 1 + 1) g (m + 1)) := Lib.hid (by unfold RunS; omega)
        have B2s : Hid (b ≤ m + 1 + 1) := Lib.hid (by omega)
        have E2s : Hid (m + 1 + 1 < m + 8 + 2) := Lib.hid (by omega)
        have S2s : Hid (¬ RunS (m + 1 + 1 + 1 + 1 + 1) (m + 1 + 1 + 1 + 1 + 1 + 1 + 1) (m + 1 + 1 + 1 + 1 + 1 + 1) g (m + 1 + 1)) := Lib.hid (by unfold RunS; omega)
        have B3s : Hid (b ≤ m + 1 + 1 + 1) := Lib.hid (by omega)
        have E3s : Hid (m + 1 + 1 + 1 < m + 8 + 2) := Lib.hid (by omega)
        have S3s : Hid (¬ RunS (m + 1 + 1 + 1 + 1 + 1) (m + 1 + 1 + 1 + 1 + 1 + 1 + 1) (m + 1 + 1 + 1 + 1 + 1 + 1) g (m + 1 + 1 + 1)) := Lib.hid (by unfold RunS; omega)
        have B4s : Hid (b ≤ m + 1 + 1 + 1 + 1) := Lib.hid (by omega)
        have E4s : Hid (m + 1 + 1 + 1 + 1 < m + 8 + 2) := Lib.hid (by omega)
        have S4s : Hid (¬ RunS (m + 1 + 1 + 1 + 1 + 1) (m + 1 + 1 + 1 + 1 + 1 + 1 + 1) (m + 1 + 1 + 1 + 1 + 1 + 1) g (m + 1 + 1 + 1 + 1)) := Lib.hid (by unfold RunS; omega)
        clear rBx hT hO
        rcases hv with ⟨rfl, hT1, hT2⟩ | ⟨rfl, hT1, hT2⟩ | ⟨rfl, rfl⟩
        · have hri : decide ((0 : Int) = 1) = false := by decide
          rw [hri] at cv2_0
          by_cases hcs : a1 = S
          · have hcq : (S.toList == a1.toList) = true := by rw [hcs]; simp
            have hst : stepO a1 T 0 S = (T, 1) := by unfold stepO; rw [if_neg (by omega), if_pos hcs]
            have hL : lastS N 0 (pre ++ [(S, stepO a1 T 0 S)]) = (T, 1) := by rw [hls, hst]
            rw [hst] at hL hlen
            rw [hst] at crBx_0 crBx_2 HBx ⊢
            dsimp only at crBx_0 crBx_2 HBx ⊢
            have hs1 : N - (N - T) = T := by omega
            have hs2 : ¬ N < N - T := by omega
            have hs3 : ((N - T) == N) = false := by rw [beq_eq_false_iff_ne]; omega
            clear hst hls hcs
            gi_wp2_with fail
            simp only [postP, hL, hlen, Int.natCast_add, Int.cast_ofNat_Int, decide_true, decide_false, Int.sub_zero, Int.reduceEq, eq_self]
            have F0 := HI.out.1
            have F0 := F0.far (p := ⟨m + 1 + 1, 0, none⟩) N0_2.out (.bool true)
            have F0 := F0.far (p := ⟨m + 1 + 1 + 1 + 1, 0, none⟩) N0_4.out (.int .i64 T)
            have F0 := F0.far (p := ⟨m + 1 + 1 + 1 + 1, 1, none⟩) N0_4.out (.int .u64 5)
            have F0 := F0.far (p := ⟨m + 1 + 1 + 1 + 1, 2, none⟩) N0_4.out (.int .i64 1)
            have F0 := F0.far (p := ⟨m + 1 + 1 + 1, 0, none⟩) N0_3.out (.int .i64 ((K : Nat) + 1))
            have F1 := HI.out.2.1
            have F1 := F1.far (p := ⟨m + 1 + 1, 0, none⟩) N1_2.out (.bool true)
            have F1 := F1.far (p := ⟨m + 1 + 1 + 1 + 1, 0, none⟩) N1_4.out (.int .i64 T)
            have F1 := F1.far (p := ⟨m + 1 + 1 + 1 + 1, 1, none⟩) N1_4.out (.int .u64 5)
            have F1 := F1.far (p := ⟨m + 1 + 1 + 1 + 1, 2, none⟩) N1_4.out (.int .i64 1)
            have F1 := F1.far (p := ⟨m + 1 + 1 + 1, 0, none⟩) N1_3.out (.int .i64 ((K : Nat) + 1))
            have F2 := HI.out.2.2.1
            have F2 := F2.far (p := ⟨m + 1 + 1, 0, none⟩) N2_2.out (.bool true)
            have F2 := F2.far (p := ⟨m + 1 + 1 + 1 + 1, 0, none⟩) N2_4.out (.int .i64 T)
            have F2 := F2.far (p := ⟨m + 1 + 1 + 1 + 1, 1, none⟩) N2_4.out (.int .u64 5)
            have F2 := F2.far (p := ⟨m + 1 + 1 + 1 + 1, 2, none⟩) N2_4.out (.int .i64 1)
            have F2 := F2.far (p := ⟨m + 1 + 1 + 1, 0, none⟩) N2_3.out (.int .i64 ((K : Nat) + 1))
            have F3 := HI.out.2.2.2.1
            have F3 := F3.far (p := ⟨m + 1 + 1, 0, none⟩) N3_2.out (.bool true)
            have F3 := F3.far (p := ⟨m + 1 + 1 + 1 + 1, 0, none⟩) N3_4.out (.int .i64 T)
            have F3 := F3.far (p := ⟨m + 1 + 1 + 1 + 1, 1, none⟩) N3_4.out (.int .u64 5)
            have F3 := F3.far (p := ⟨m + 1 + 1 + 1 + 1, 2, none⟩) N3_4.out (.int .i64 1)
            have F3 := F3.far (p := ⟨m + 1 + 1 + 1, 0, none⟩) N3_3.out (.int .i64 ((K : Nat) + 1))
            have F4 := HI.out.2.2.2.2.1
            have F4 := F4.far (p := ⟨m + 1 + 1, 0, none⟩) N4_2.out (.bool true)
            have F4 := F4.far (p := ⟨m + 1 + 1 + 1 + 1, 0, none⟩) N4_4.out (.int .i64 T)
            have F4 := F4.far (p := ⟨m + 1 + 1 + 1 + 1, 1, none⟩) N4_4.out (.int .u64 5)
            have F4 := F4.far (p := ⟨m + 1 + 1 + 1 + 1, 2, none⟩) N4_4.out (.int .i64 1)
            have F4 := F4.far (p := ⟨m + 1 + 1 + 1, 0, none⟩) N4_3.out (.int .i64 ((K : Nat) + 1))
            have F5 := HI.out.2.2.2.2.2.1
            have F5 := F5.far (p := ⟨m + 1 + 1, 0, none⟩) N5_2.out (.bool true)
            have F5 := F5.far (p := ⟨m + 1 + 1 + 1 + 1, 0, none⟩) N5_4.out (.int .i64 T)
            have F5 := F5.far (p := ⟨m + 1 + 1 + 1 + 1, 1, none⟩) N5_4.out (.int .u64 5)
            have F5 := F5.far (p := ⟨m + 1 + 1 + 1 + 1, 2, none⟩) N5_4.out (.int .i64 1)
            have F5 := F5.far (p := ⟨m + 1 + 1 + 1, 0, none⟩) N5_3.out (.int .i64 ((K : Nat) + 1))
            have F6 := HI.out.2.2.2.2.2.2.1
            have F6 := F6.far (p := ⟨m + 1 + 1, 0, none⟩) N6_2.out (.bool true)
            have F6 := F6.far (p := ⟨m + 1 + 1 + 1 + 1, 0, none⟩) N6_4.out (.int .i64 T)
            have F6 := F6.far (p := ⟨m + 1 + 1 + 1 + 1, 1, none⟩) N6_4.out (.int .u64 5)
            have F6 := F6.far (p := ⟨m + 1 + 1 + 1 + 1, 2, none⟩) N6_4.out (.int .i64 1)
            have F6 := F6.far (p := ⟨m + 1 + 1 + 1, 0, none⟩) N6_3.out (.int .i64 ((K : Nat) + 1))
            have F7 := HI.out.2.2.2.2.2.2.2.1
            have F7 := F7.set 0 (.bool true)
            have F7 := F7.far (p := ⟨m + 1 + 1 + 1 + 1, 0, none⟩) N7_4.out (.int .i64 T)
            have F7 := F7.far (p := ⟨m + 1 + 1 + 1 + 1, 1, none⟩) N7_4.out (.int .u64 5)
            have F7 := F7.far (p := ⟨m + 1 + 1 + 1 + 1, 2, none⟩) N7_4.out (.int .i64 1)
            have F7 := F7.far (p := ⟨m + 1 + 1 + 1, 0, none⟩) N7_3.out (.int .i64 ((K : Nat) + 1))
            have F8 := HI.out.2.2.2.2.2.2.2.2.1
            have F8 := F8.far (p := ⟨m + 1 + 1, 0, none⟩) N8_2.out (.bool true)
            have F8 := F8.far (p := ⟨m + 1 + 1 + 1 + 1, 0, none⟩) N8_4.out (.int .i64 T)
            have F8 := F8.far (p := ⟨m + 1 + 1 + 1 + 1, 1, none⟩) N8_4.out (.int .u64 5)
            have F8 := F8.far (p := ⟨m + 1 + 1 + 1 + 1, 2, none⟩) N8_4.out (.int .i64 1)
            have F8 := F8.set 0 (.int .i64 ((K : Nat) + 1))
            have F9 := HI.out.2.2.2.2.2.2.2.2.2.1
            have F9 := F9.far (p := ⟨m + 1 + 1, 0, none⟩) N9_2.out (.bool true)
            have F9 := F9.set 0 (.int .i64 T)
            have F9 := F9.set 1 (.int .u64 5)
            have F9 := F9.set 2 (.int .i64 1)
            have F9 := F9.far (p := ⟨m + 1 + 1 + 1, 0, none⟩) N9_3.out (.int .i64 ((K : Nat) + 1))
            have FB := HI.out.2.2.2.2.2.2.2.2.2.2
            have FK : KeepsFrom (m + 8) W W := (KeepsOthers.refl _).from _
            have FS := keepsS_refl (RunS (m + 1 + 1 + 1 + 1 + 1) (m + 1 + 1 + 1 + 1 + 1 + 1 + 1) (m + 1 + 1 + 1 + 1 + 1 + 1) g) (m + 8 + 2) W
            have FB := FB.setCell (p := ⟨m + 1 + 1, 0, none⟩) B2s.out (.bool true)
            have FK := keepsF_set FK ⟨m + 1 + 1, 0, none⟩ (.bool true)
            have FS := keepsS_set FS ⟨m + 1 + 1, 0, none⟩ (.bool true) S2s.out E2s.out
            have FB := FB.setCell (p := ⟨m + 1 + 1 + 1 + 1, 0, none⟩) B4s.out (.int .i64 T)
            have FK := keepsF_set FK ⟨m + 1 + 1 + 1 + 1, 0, none⟩ (.int .i64 T)
            have FS := keepsS_set FS ⟨m + 1 + 1 + 1 + 1, 0, none⟩ (.int .i64 T) S4s.out E4s.out
            have FB := FB.setCell (p := ⟨m + 1 + 1 + 1 + 1, 1, none⟩) B4s.out (.int .u64 5)
            have FK := keepsF_set FK ⟨m + 1 + 1 + 1 + 1, 1, none⟩ (.int .u64 5)
            have FS := keepsS_set FS ⟨m + 1 + 1 + 1 + 1, 1, none⟩ (.int .u64 5) S4s.out E4s.out
            have FB := FB.setCell (p := ⟨m + 1 + 1 + 1 + 1, 2, none⟩) B4s.out (.int .i64 1)
            have FK := keepsF_set FK ⟨m + 1 + 1 + 1 + 1, 2, none⟩ (.int .i64 1)
            have FS := keepsS_set FS ⟨m + 1 + 1 + 1 + 1, 2, none⟩ (.int .i64 1) S4s.out E4s.out
            have FB := FB.setCell (p := ⟨m + 1 + 1 + 1, 0, none⟩) B3s.out (.int .i64 ((K : Nat) + 1))
            have FK := keepsF_set FK ⟨m + 1 + 1 + 1, 0, none⟩ (.int .i64 ((K : Nat) + 1))
            have FS := keepsS_set FS ⟨m + 1 + 1 + 1, 0, none⟩ (.int .i64 ((K : Nat) + 1)) S3s.out E3s.out
            simp only [List.set_cons_zero, List.set_cons_succ, Int.sub_zero, Int.reduceEq, eq_self, decide_true, decide_false] at F6 F7 F8 F9
            exact ⟨FK, FS, F0, F1, F2, F3, F4, F5, F6, F7, F8, F9, FB⟩
          · have hcq : (S.toList == a1.toList) = false := by rw [beq_eq_false_iff_ne]; intro e; rw [ByteArray.toList_eq, ByteArray.toList_eq] at e; exact hcs (ByteArray.ext (Array.toList_inj.mp e.symm))
            by_cases hT3 : T = 1
            · subst hT3
              have hst : stepO a1 1 0 S = (0, 2) := by unfold stepO; rw [if_neg (by omega), if_neg hcs, if_pos (by omega)]
              have hL : lastS N 0 (pre ++ [(S, stepO a1 1 0 S)]) = (0, 2) := by rw [hls, hst]
              rw [hst] at hL hlen
              rw [hst] at crBx_0 crBx_2 HBx ⊢
              dsimp only at crBx_0 crBx_2 HBx ⊢
              have hs1 : N - (N - 1 + 1) = 0 := by omega
              have hs2 : ¬ N < N - 1 + 1 := by omega
              have hs3 : ((N - 1 + 1) == N) = true := by rw [beq_iff_eq]; omega
              clear hst hls hcs
              gi_wp2_with fail
              simp only [postP, hL, hlen, Int.natCast_add, Int.cast_ofNat_Int, decide_true, decide_false, Int.sub_zero, Int.reduceEq, eq_self]
              have F0 := HI.out.1
              have F0 := F0.far (p := ⟨m + 1, 0, none⟩) N0_1.out (.int .i64 N)
              have F0 := F0.far (p := ⟨m + 1 + 1 + 1 + 1, 0, none⟩) N0_4.out (.int .i64 0)
              have F0 := F0.far (p := ⟨m + 1 + 1 + 1 + 1, 1, none⟩) N0_4.out (.int .u64 5)
              have F0 := F0.far (p := ⟨m + 1 + 1 + 1 + 1, 2, none⟩) N0_4.out (.int .i64 2)
              have F0 := F0.far (p := ⟨m + 1 + 1 + 1, 0, none⟩) N0_3.out (.int .i64 ((K : Nat) + 1))
              have F1 := HI.out.2.1
              have F1 := F1.far (p := ⟨m + 1, 0, none⟩) N1_1.out (.int .i64 N)
              have F1 := F1.far (p := ⟨m + 1 + 1 + 1 + 1, 0, none⟩) N1_4.out (.int .i64 0)
              have F1 := F1.far (p := ⟨m + 1 + 1 + 1 + 1, 1, none⟩) N1_4.out (.int .u64 5)
              have F1 := F1.far (p := ⟨m + 1 + 1 + 1 + 1, 2, none⟩) N1_4.out (.int .i64 2)
              have F1 := F1.far (p := ⟨m + 1 + 1 + 1, 0, none⟩) N1_3.out (.int .i64 ((K : Nat) + 1))
              have F2 := HI.out.2.2.1
              have F2 := F2.far (p := ⟨m + 1, 0, none⟩) N2_1.out (.int .i64 N)
              have F2 := F2.far (p := ⟨m + 1 + 1 + 1 + 1, 0, none⟩) N2_4.out (.int .i64 0)
              have F2 := F2.far (p := ⟨m + 1 + 1 + 1 + 1, 1, none⟩) N2_4.out (.int .u64 5)
              have F2 := F2.far (p := ⟨m + 1 + 1 + 1 + 1, 2, none⟩) N2_4.out (.int .i64 2)
              have F2 := F2.far (p := ⟨m + 1 + 1 + 1, 0, none⟩) N2_3.out (.int .i64 ((K : Nat) + 1))
              have F3 := HI.out.2.2.2.1
              have F3 := F3.far (p := ⟨m + 1, 0, none⟩) N3_1.out (.int .i64 N)
              have F3 := F3.far (p := ⟨m + 1 + 1 + 1 + 1, 0, none⟩) N3_4.out (.int .i64 0)
              have F3 := F3.far (p := ⟨m + 1 + 1 + 1 + 1, 1, none⟩) N3_4.out (.int .u64 5)
              have F3 := F3.far (p := ⟨m + 1 + 1 + 1 + 1, 2, none⟩) N3_4.out (.int .i64 2)
              have F3 := F3.far (p := ⟨m + 1 + 1 + 1, 0, none⟩) N3_3.out (.int .i64 ((K : Nat) + 1))
              have F4 := HI.out.2.2.2.2.1
              have F4 := F4.far (p := ⟨m + 1, 0, none⟩) N4_1.out (.int .i64 N)
              have F4 := F4.far (p := ⟨m + 1 + 1 + 1 + 1, 0, none⟩) N4_4.out (.int .i64 0)
              have F4 := F4.far (p := ⟨m + 1 + 1 + 1 + 1, 1, none⟩) N4_4.out (.int .u64 5)
              have F4 := F4.far (p := ⟨m + 1 + 1 + 1 + 1, 2, none⟩) N4_4.out (.int .i64 2)
              have F4 := F4.far (p := ⟨m + 1 + 1 + 1, 0, none⟩) N4_3.out (.int .i64 ((K : Nat) + 1))
              have F5 := HI.out.2.2.2.2.2.1
              have F5 := F5.far (p := ⟨m + 1, 0, none⟩) N5_1.out (.int .i64 N)
              have F5 := F5.far (p := ⟨m + 1 + 1 + 1 + 1, 0, none⟩) N5_4.out (.int .i64 0)
              have F5 := F5.far (p := ⟨m + 1 + 1 + 1 + 1, 1, none⟩) N5_4.out (.int .u64 5)
              have F5 := F5.far (p := ⟨m + 1 + 1 + 1 + 1, 2, none⟩) N5_4.out (.int .i64 2)
              have F5 := F5.far (p := ⟨m + 1 + 1 + 1, 0, none⟩) N5_3.out (.int .i64 ((K : Nat) + 1))
              have F6 := HI.out.2.2.2.2.2.2.1
              have F6 := F6.set 0 (.int .i64 N)
              have F6 := F6.far (p := ⟨m + 1 + 1 + 1 + 1, 0, none⟩) N6_4.out (.int .i64 0)
              have F6 := F6.far (p := ⟨m + 1 + 1 + 1 + 1, 1, none⟩) N6_4.out (.int .u64 5)
              have F6 := F6.far (p := ⟨m + 1 + 1 + 1 + 1, 2, none⟩) N6_4.out (.int .i64 2)
              have F6 := F6.far (p := ⟨m + 1 + 1 + 1, 0, none⟩) N6_3.out (.int .i64 ((K : Nat) + 1))
              have F7 := HI.out.2.2.2.2.2.2.2.1
              have F7 := F7.far (p := ⟨m + 1, 0, none⟩) N7_1.out (.int .i64 N)
              have F7 := F7.far (p := ⟨m + 1 + 1 + 1 + 1, 0, none⟩) N7_4.out (.int .i64 0)
              have F7 := F7.far (p := ⟨m + 1 + 1 + 1 + 1, 1, none⟩) N7_4.out (.int .u64 5)
              have F7 := F7.far (p := ⟨m + 1 + 1 + 1 + 1, 2, none⟩) N7_4.out (.int .i64 2)
              have F7 := F7.far (p := ⟨m + 1 + 1 + 1, 0, none⟩) N7_3.out (.int .i64 ((K : Nat) + 1))
              have F8 := HI.out.2.2.2.2.2.2.2.2.1
              have F8 := F8.far (p := ⟨m + 1, 0, none⟩) N8_1.out (.int .i64 N)
              have F8 := F8.far (p := ⟨m + 1 + 1 + 1 + 1, 0, none⟩) N8_4.out (.int .i64 0)
              have F8 := F8.far (p := ⟨m + 1 + 1 + 1 + 1, 1, none⟩) N8_4.out (.int .u64 5)
              have F8 := F8.far (p := ⟨m + 1 + 1 + 1 + 1, 2, none⟩) N8_4.out (.int .i64 2)
              have F8 := F8.set 0 (.int .i64 ((K : Nat) + 1))
              have F9 := HI.out.2.2.2.2.2.2.2.2.2.1
              have F9 := F9.far (p := ⟨m + 1, 0, none⟩) N9_1.out (.int .i64 N)
              have F9 := F9.set 0 (.int .i64 0)
              have F9 := F9.set 1 (.int .u64 5)
              have F9 := F9.set 2 (.int .i64 2)
              have F9 := F9.far (p := ⟨m + 1 + 1 + 1, 0, none⟩) N9_3.out (.int .i64 ((K : Nat) + 1))
              have FB := HI.out.2.2.2.2.2.2.2.2.2.2
              have FK : KeepsFrom (m + 8) W W := (KeepsOthers.refl _).from _
              have FS := keepsS_refl (RunS (m + 1 + 1 + 1 + 1 + 1) (m + 1 + 1 + 1 + 1 + 1 + 1 + 1) (m + 1 + 1 + 1 + 1 + 1 + 1) g) (m + 8 + 2) W
              have FB := FB.setCell (p := ⟨m + 1, 0, none⟩) B1s.out (.int .i64 N)
              have FK := keepsF_set FK ⟨m + 1, 0, none⟩ (.int .i64 N)
              have FS := keepsS_set FS ⟨m + 1, 0, none⟩ (.int .i64 N) S1s.out E1s.out
              have FB := FB.setCell (p := ⟨m + 1 + 1 + 1 + 1, 0, none⟩) B4s.out (.int .i64 0)
              have FK := keepsF_set FK ⟨m + 1 + 1 + 1 + 1, 0, none⟩ (.int .i64 0)
              have FS := keepsS_set FS ⟨m + 1 + 1 + 1 + 1, 0, none⟩ (.int .i64 0) S4s.out E4s.out
              have FB := FB.setCell (p := ⟨m + 1 + 1 + 1 + 1, 1, none⟩) B4s.out (.int .u64 5)
              have FK := keepsF_set FK ⟨m + 1 + 1 + 1 + 1, 1, none⟩ (.int .u64 5)
              have FS := keepsS_set FS ⟨m + 1 + 1 + 1 + 1, 1, none⟩ (.int .u64 5) S4s.out E4s.out
              have FB := FB.setCell (p := ⟨m + 1 + 1 + 1 + 1, 2, none⟩) B4s.out (.int .i64 2)
              have FK := keepsF_set FK ⟨m + 1 + 1 + 1 + 1, 2, none⟩ (.int .i64 2)
              have FS := keepsS_set FS ⟨m + 1 + 1 + 1 + 1, 2, none⟩ (.int .i64 2) S4s.out E4s.out
              have FB := FB.setCell (p := ⟨m + 1 + 1 + 1, 0, none⟩) B3s.out (.int .i64 ((K : Nat) + 1))
              have FK := keepsF_set FK ⟨m + 1 + 1 + 1, 0, none⟩ (.int .i64 ((K : Nat) + 1))
              have FS := keepsS_set FS ⟨m + 1 + 1 + 1, 0, none⟩ (.int .i64 ((K : Nat) + 1)) S3s.out E3s.out
              simp only [List.set_cons_zero, List.set_cons_succ, Int.sub_zero, Int.reduceEq, eq_self, decide_true, decide_false] at F6 F7 F8 F9
              exact ⟨FK, FS, F0, F1, F2, F3, F4, F5, F6, F7, F8, F9, FB⟩
            · have hT4 : 2 ≤ T := by omega
              have hst : stepO a1 T 0 S = ((T - 1), 0) := by unfold stepO; rw [if_neg (by omega), if_neg hcs, if_neg (by omega)]
              have hL : lastS N 0 (pre ++ [(S, stepO a1 T 0 S)]) = ((T - 1), 0) := by rw [hls, hst]
              rw [hst] at hL hlen
              rw [hst] at crBx_0 crBx_2 HBx ⊢
              dsimp only at crBx_0 crBx_2 HBx ⊢
              have hs1 : N - (N - T + 1) = T - 1 := by omega
              have hs2 : ¬ N < N - T + 1 := by omega
              have hs4 : N - (T - 1) = N - T + 1 := by omega
              have hs3 : ((N - T + 1) == N) = false := by rw [beq_eq_false_iff_ne]; omega
              clear hst hls hcs
              gi_wp2_with fail
              simp only [postP, hL, hlen, Int.natCast_add, Int.cast_ofNat_Int, decide_true, decide_false, Int.sub_zero, Int.reduceEq, eq_self, hs4]
              have F0 := HI.out.1
              have F0 := F0.far (p := ⟨m + 1, 0, none⟩) N0_1.out (.int .i64 (N - T + 1))
              have F0 := F0.far (p := ⟨m + 1 + 1 + 1 + 1, 0, none⟩) N0_4.out (.int .i64 (T - 1))
              have F0 := F0.far (p := ⟨m + 1 + 1 + 1 + 1, 1, none⟩) N0_4.out (.int .u64 5)
              have F0 := F0.far (p := ⟨m + 1 + 1 + 1 + 1, 2, none⟩) N0_4.out (.int .i64 0)
              have F0 := F0.far (p := ⟨m + 1 + 1 + 1, 0, none⟩) N0_3.out (.int .i64 ((K : Nat) + 1))
              have F1 := HI.out.2.1
              have F1 := F1.far (p := ⟨m + 1, 0, none⟩) N1_1.out (.int .i64 (N - T + 1))
              have F1 := F1.far (p := ⟨m + 1 + 1 + 1 + 1, 0, none⟩) N1_4.out (.int .i64 (T - 1))
              have F1 := F1.far (p := ⟨m + 1 + 1 + 1 + 1, 1, none⟩) N1_4.out (.int .u64 5)
              have F1 := F1.far (p := ⟨m + 1 + 1 + 1 + 1, 2, none⟩) N1_4.out (.int .i64 0)
              have F1 := F1.far (p := ⟨m + 1 + 1 + 1, 0, none⟩) N1_3.out (.int .i64 ((K : Nat) + 1))
              have F2 := HI.out.2.2.1
              have F2 := F2.far (p := ⟨m + 1, 0, none⟩) N2_1.out (.int .i64 (N - T + 1))
              have F2 := F2.far (p := ⟨m + 1 + 1 + 1 + 1, 0, none⟩) N2_4.out (.int .i64 (T - 1))
              have F2 := F2.far (p := ⟨m + 1 + 1 + 1 + 1, 1, none⟩) N2_4.out (.int .u64 5)
              have F2 := F2.far (p := ⟨m + 1 + 1 + 1 + 1, 2, none⟩) N2_4.out (.int .i64 0)
              have F2 := F2.far (p := ⟨m + 1 + 1 + 1, 0, none⟩) N2_3.out (.int .i64 ((K : Nat) + 1))
              have F3 := HI.out.2.2.2.1
              have F3 := F3.far (p := ⟨m + 1, 0, none⟩) N3_1.out (.int .i64 (N - T + 1))
              have F3 := F3.far (p := ⟨m + 1 + 1 + 1 + 1, 0, none⟩) N3_4.out (.int .i64 (T - 1))
              have F3 := F3.far (p := ⟨m + 1 + 1 + 1 + 1, 1, none⟩) N3_4.out (.int .u64 5)
              have F3 := F3.far (p := ⟨m + 1 + 1 + 1 + 1, 2, none⟩) N3_4.out (.int .i64 0)
              have F3 := F3.far (p := ⟨m + 1 + 1 + 1, 0, none⟩) N3_3.out (.int .i64 ((K : Nat) + 1))
              have F4 := HI.out.2.2.2.2.1
              have F4 := F4.far (p := ⟨m + 1, 0, none⟩) N4_1.out (.int .i64 (N - T + 1))
              have F4 := F4.far (p := ⟨m + 1 + 1 + 1 + 1, 0, none⟩) N4_4.out (.int .i64 (T - 1))
              have F4 := F4.far (p := ⟨m + 1 + 1 + 1 + 1, 1, none⟩) N4_4.out (.int .u64 5)
              have F4 := F4.far (p := ⟨m + 1 + 1 + 1 + 1, 2, none⟩) N4_4.out (.int .i64 0)
              have F4 := F4.far (p := ⟨m + 1 + 1 + 1, 0, none⟩) N4_3.out (.int .i64 ((K : Nat) + 1))
              have F5 := HI.out.2.2.2.2.2.1
              have F5 := F5.far (p := ⟨m + 1, 0, none⟩) N5_1.out (.int .i64 (N - T + 1))
              have F5 := F5.far (p := ⟨m + 1 + 1 + 1 + 1, 0, none⟩) N5_4.out (.int .i64 (T - 1))
              have F5 := F5.far (p := ⟨m + 1 + 1 + 1 + 1, 1, none⟩) N5_4.out (.int .u64 5)
              have F5 := F5.far (p := ⟨m + 1 + 1 + 1 + 1, 2, none⟩) N5_4.out (.int .i64 0)
              have F5 := F5.far (p := ⟨m + 1 + 1 + 1, 0, none⟩) N5_3.out (.int .i64 ((K : Nat) + 1))
              have F6 := HI.out.2.2.2.2.2.2.1
              have F6 := F6.set 0 (.int .i64 (N - T + 1))
              have F6 := F6.far (p := ⟨m + 1 + 1 + 1 + 1, 0, none⟩) N6_4.out (.int .i64 (T - 1))
              have F6 := F6.far (p := ⟨m + 1 + 1 + 1 + 1, 1, none⟩) N6_4.out (.int .u64 5)
              have F6 := F6.far (p := ⟨m + 1 + 1 + 1 + 1, 2, none⟩) N6_4.out (.int .i64 0)
              have F6 := F6.far (p := ⟨m + 1 + 1 + 1, 0, none⟩) N6_3.out (.int .i64 ((K : Nat) + 1))
              have F7 := HI.out.2.2.2.2.2.2.2.1
              have F7 := F7.far (p := ⟨m + 1, 0, none⟩) N7_1.out (.int .i64 (N - T + 1))
              have F7 := F7.far (p := ⟨m + 1 + 1 + 1 + 1, 0, none⟩) N7_4.out (.int .i64 (T - 1))
              have F7 := F7.far (p := ⟨m + 1 + 1 + 1 + 1, 1, none⟩) N7_4.out (.int .u64 5)
              have F7 := F7.far (p := ⟨m + 1 + 1 + 1 + 1, 2, none⟩) N7_4.out (.int .i64 0)
              have F7 := F7.far (p := ⟨m + 1 + 1 + 1, 0, none⟩) N7_3.out (.int .i64 ((K : Nat) + 1))
              have F8 := HI.out.2.2.2.2.2.2.2.2.1
              have F8 := F8.far (p := ⟨m + 1, 0, none⟩) N8_1.out (.int .i64 (N - T + 1))
              have F8 := F8.far (p := ⟨m + 1 + 1 + 1 + 1, 0, none⟩) N8_4.out (.int .i64 (T - 1))
              have F8 := F8.far (p := ⟨m + 1 + 1 + 1 + 1, 1, none⟩) N8_4.out (.int .u64 5)
              have F8 := F8.far (p := ⟨m + 1 + 1 + 1 + 1, 2, none⟩) N8_4.out (.int .i64 0)
              have F8 := F8.set 0 (.int .i64 ((K : Nat) + 1))
              have F9 := HI.out.2.2.2.2.2.2.2.2.2.1
              have F9 := F9.far (p := ⟨m + 1, 0, none⟩) N9_1.out (.int .i64 (N - T + 1))
              have F9 := F9.set 0 (.int .i64 (T - 1))
              have F9 := F9.set 1 (.int .u64 5)
              have F9 := F9.set 2 (.int .i64 0)
              have F9 := F9.far (p := ⟨m + 1 + 1 + 1, 0, none⟩) N9_3.out (.int .i64 ((K : Nat) + 1))
              have FB := HI.out.2.2.2.2.2.2.2.2.2.2
              have FK : KeepsFrom (m + 8) W W := (KeepsOthers.refl _).from _
              have FS := keepsS_refl (RunS (m + 1 + 1 + 1 + 1 + 1) (m + 1 + 1 + 1 + 1 + 1 + 1 + 1) (m + 1 + 1 + 1 + 1 + 1 + 1) g) (m + 8 + 2) W
              have FB := FB.setCell (p := ⟨m + 1, 0, none⟩) B1s.out (.int .i64 (N - T + 1))
              have FK := keepsF_set FK ⟨m + 1, 0, none⟩ (.int .i64 (N - T + 1))
              have FS := keepsS_set FS ⟨m + 1, 0, none⟩ (.int .i64 (N - T + 1)) S1s.out E1s.out
              have FB := FB.setCell (p := ⟨m + 1 + 1 + 1 + 1, 0, none⟩) B4s.out (.int .i64 (T - 1))
              have FK := keepsF_set FK ⟨m + 1 + 1 + 1 + 1, 0, none⟩ (.int .i64 (T - 1))
              have FS := keepsS_set FS ⟨m + 1 + 1 + 1 + 1, 0, none⟩ (.int .i64 (T - 1)) S4s.out E4s.out
              have FB := FB.setCell (p := ⟨m + 1 + 1 + 1 + 1, 1, none⟩) B4s.out (.int .u64 5)
              have FK := keepsF_set FK ⟨m + 1 + 1 + 1 + 1, 1, none⟩ (.int .u64 5)
              have FS := keepsS_set FS ⟨m + 1 + 1 + 1 + 1, 1, none⟩ (.int .u64 5) S4s.out E4s.out
              have FB := FB.setCell (p := ⟨m + 1 + 1 + 1 + 1, 2, none⟩) B4s.out (.int .i64 0)
              have FK := keepsF_set FK ⟨m + 1 + 1 + 1 + 1, 2, none⟩ (.int .i64 0)
              have FS := keepsS_set FS ⟨m + 1 + 1 + 1 + 1, 2, none⟩ (.int .i64 0) S4s.out E4s.out
              have FB := FB.setCell (p := ⟨m + 1 + 1 + 1, 0, none⟩) B3s.out (.int .i64 ((K : Nat) + 1))
              have FK := keepsF_set FK ⟨m + 1 + 1 + 1, 0, none⟩ (.int .i64 ((K : Nat) + 1))
              have FS := keepsS_set FS ⟨m + 1 + 1 + 1, 0, none⟩ (.int .i64 ((K : Nat) + 1)) S3s.out E3s.out
              simp only [List.set_cons_zero, List.set_cons_succ, Int.sub_zero, Int.reduceEq, eq_self, decide_true, decide_false] at F6 F7 F8 F9
              exact ⟨FK, FS, F0, F1, F2, F3, F4, F5, F6, F7, F8, F9, FB⟩
        · have hri : decide ((1 : Int) = 1) = true := by decide
          rw [hri] at cv2_0
          have hself := fun W => st_selfN T 5 1 W
          have hst : stepO a1 T 1 S = (T, 1) := by unfold stepO; rw [if_pos (by omega)]
          have hL : lastS N 0 (pre ++ [(S, stepO a1 T 1 S)]) = (T, 1) := by rw [hls, hst]
          rw [hst] at hL hlen
          rw [hst] at crBx_0 crBx_2 HBx ⊢
          dsimp only at crBx_0 crBx_2 HBx ⊢
          have hs1 : N - (N - T) = T := by omega
          have hs2 : ¬ N < N - T := by omega
          have hs3 : ((N - T) == N) = false := by rw [beq_eq_false_iff_ne]; omega
          clear hst hls
          gi_wp2_with fail
          simp only [postP, hL, hlen, Int.natCast_add, Int.cast_ofNat_Int, decide_true, decide_false, Int.sub_zero, Int.reduceEq, eq_self]
          have F0 := HI.out.1
          have F0 := F0.far (p := ⟨m + 1 + 1 + 1 + 1, 0, none⟩) N0_4.out (.int .i64 T)
          have F0 := F0.far (p := ⟨m + 1 + 1 + 1 + 1, 1, none⟩) N0_4.out (.int .u64 5)
          have F0 := F0.far (p := ⟨m + 1 + 1 + 1 + 1, 2, none⟩) N0_4.out (.int .i64 1)
          have F0 := F0.far (p := ⟨m + 1 + 1 + 1, 0, none⟩) N0_3.out (.int .i64 ((K : Nat) + 1))
          have F1 := HI.out.2.1
          have F1 := F1.far (p := ⟨m + 1 + 1 + 1 + 1, 0, none⟩) N1_4.out (.int .i64 T)
          have F1 := F1.far (p := ⟨m + 1 + 1 + 1 + 1, 1, none⟩) N1_4.out (.int .u64 5)
          have F1 := F1.far (p := ⟨m + 1 + 1 + 1 + 1, 2, none⟩) N1_4.out (.int .i64 1)
          have F1 := F1.far (p := ⟨m + 1 + 1 + 1, 0, none⟩) N1_3.out (.int .i64 ((K : Nat) + 1))
          have F2 := HI.out.2.2.1
          have F2 := F2.far (p := ⟨m + 1 + 1 + 1 + 1, 0, none⟩) N2_4.out (.int .i64 T)
          have F2 := F2.far (p := ⟨m + 1 + 1 + 1 + 1, 1, none⟩) N2_4.out (.int .u64 5)
          have F2 := F2.far (p := ⟨m + 1 + 1 + 1 + 1, 2, none⟩) N2_4.out (.int .i64 1)
          have F2 := F2.far (p := ⟨m + 1 + 1 + 1, 0, none⟩) N2_3.out (.int .i64 ((K : Nat) + 1))
          have F3 := HI.out.2.2.2.1
          have F3 := F3.far (p := ⟨m + 1 + 1 + 1 + 1, 0, none⟩) N3_4.out (.int .i64 T)
          have F3 := F3.far (p := ⟨m + 1 + 1 + 1 + 1, 1, none⟩) N3_4.out (.int .u64 5)
          have F3 := F3.far (p := ⟨m + 1 + 1 + 1 + 1, 2, none⟩) N3_4.out (.int .i64 1)
          have F3 := F3.far (p := ⟨m + 1 + 1 + 1, 0, none⟩) N3_3.out (.int .i64 ((K : Nat) + 1))
          have F4 := HI.out.2.2.2.2.1
          have F4 := F4.far (p := ⟨m + 1 + 1 + 1 + 1, 0, none⟩) N4_4.out (.int .i64 T)
          have F4 := F4.far (p := ⟨m + 1 + 1 + 1 + 1, 1, none⟩) N4_4.out (.int .u64 5)
          have F4 := F4.far (p := ⟨m + 1 + 1 + 1 + 1, 2, none⟩) N4_4.out (.int .i64 1)
          have F4 := F4.far (p := ⟨m + 1 + 1 + 1, 0, none⟩) N4_3.out (.int .i64 ((K : Nat) + 1))
          have F5 := HI.out.2.2.2.2.2.1
          have F5 := F5.far (p := ⟨m + 1 + 1 + 1 + 1, 0, none⟩) N5_4.out (.int .i64 T)
          have F5 := F5.far (p := ⟨m + 1 + 1 + 1 + 1, 1, none⟩) N5_4.out (.int .u64 5)
          have F5 := F5.far (p := ⟨m + 1 + 1 + 1 + 1, 2, none⟩) N5_4.out (.int .i64 1)
          have F5 := F5.far (p := ⟨m + 1 + 1 + 1, 0, none⟩) N5_3.out (.int .i64 ((K : Nat) + 1))
          have F6 := HI.out.2.2.2.2.2.2.1
          have F6 := F6.far (p := ⟨m + 1 + 1 + 1 + 1, 0, none⟩) N6_4.out (.int .i64 T)
          have F6 := F6.far (p := ⟨m + 1 + 1 + 1 + 1, 1, none⟩) N6_4.out (.int .u64 5)
          have F6 := F6.far (p := ⟨m + 1 + 1 + 1 + 1, 2, none⟩) N6_4.out (.int .i64 1)
          have F6 := F6.far (p := ⟨m + 1 + 1 + 1, 0, none⟩) N6_3.out (.int .i64 ((K : Nat) + 1))
          have F7 := HI.out.2.2.2.2.2.2.2.1
          have F7 := F7.far (p := ⟨m + 1 + 1 + 1 + 1, 0, none⟩) N7_4.out (.int .i64 T)
          have F7 := F7.far (p := ⟨m + 1 + 1 + 1 + 1, 1, none⟩) N7_4.out (.int .u64 5)
          have F7 := F7.far (p := ⟨m + 1 + 1 + 1 + 1, 2, none⟩) N7_4.out (.int .i64 1)
          have F7 := F7.far (p := ⟨m + 1 + 1 + 1, 0, none⟩) N7_3.out (.int .i64 ((K : Nat) + 1))
          have F8 := HI.out.2.2.2.2.2.2.2.2.1
          have F8 := F8.far (p := ⟨m + 1 + 1 + 1 + 1, 0, none⟩) N8_4.out (.int .i64 T)
          have F8 := F8.far (p := ⟨m + 1 + 1 + 1 + 1, 1, none⟩) N8_4.out (.int .u64 5)
          have F8 := F8.far (p := ⟨m + 1 + 1 + 1 + 1, 2, none⟩) N8_4.out (.int .i64 1)
          have F8 := F8.set 0 (.int .i64 ((K : Nat) + 1))
          have F9 := HI.out.2.2.2.2.2.2.2.2.2.1
          have F9 := F9.set 0 (.int .i64 T)
          have F9 := F9.set 1 (.int .u64 5)
          have F9 := F9.set 2 (.int .i64 1)
          have F9 := F9.far (p := ⟨m + 1 + 1 + 1, 0, none⟩) N9_3.out (.int .i64 ((K : Nat) + 1))
          have FB := HI.out.2.2.2.2.2.2.2.2.2.2
          have FK : KeepsFrom (m + 8) W W := (KeepsOthers.refl _).from _
          have FS := keepsS_refl (RunS (m + 1 + 1 + 1 + 1 + 1) (m + 1 + 1 + 1 + 1 + 1 + 1 + 1) (m + 1 + 1 + 1 + 1 + 1 + 1) g) (m + 8 + 2) W
          have FB := FB.setCell (p := ⟨m + 1 + 1 + 1 + 1, 0, none⟩) B4s.out (.int .i64 T)
          have FK := keepsF_set FK ⟨m + 1 + 1 + 1 + 1, 0, none⟩ (.int .i64 T)
          have FS := keepsS_set FS ⟨m + 1 + 1 + 1 + 1, 0, none⟩ (.int .i64 T) S4s.out E4s.out
          have FB := FB.setCell (p := ⟨m + 1 + 1 + 1 + 1, 1, none⟩) B4s.out (.int .u64 5)
          have FK := keepsF_set FK ⟨m + 1 + 1 + 1 + 1, 1, none⟩ (.int .u64 5)
          have FS := keepsS_set FS ⟨m + 1 + 1 + 1 + 1, 1, none⟩ (.int .u64 5) S4s.out E4s.out
          have FB := FB.setCell (p := ⟨m + 1 + 1 + 1 + 1, 2, none⟩) B4s.out (.int .i64 1)
          have FK := keepsF_set FK ⟨m + 1 + 1 + 1 + 1, 2, none⟩ (.int .i64 1)
          have FS := keepsS_set FS ⟨m + 1 + 1 + 1 + 1, 2, none⟩ (.int .i64 1) S4s.out E4s.out
          have FB := FB.setCell (p := ⟨m + 1 + 1 + 1, 0, none⟩) B3s.out (.int .i64 ((K : Nat) + 1))
          have FK := keepsF_set FK ⟨m + 1 + 1 + 1, 0, none⟩ (.int .i64 ((K : Nat) + 1))
          have FS := keepsS_set FS ⟨m + 1 + 1 + 1, 0, none⟩ (.int .i64 ((K : Nat) + 1)) S3s.out E3s.out
          simp only [List.set_cons_zero, List.set_cons_succ, Int.sub_zero, Int.reduceEq, eq_self, decide_true, decide_false] at F6 F7 F8 F9
          exact ⟨FK, FS, F0, F1, F2, F3, F4, F5, F6, F7, F8, F9, FB⟩
        · have hri : decide ((2 : Int) = 1) = false := by decide
          rw [hri] at cv2_0
          have hself := fun W => st_selfN 0 5 2 W
          have hst : stepO a1 0 2 S = (0, 2) := by unfold stepO; rw [if_pos (by omega)]
          have hL : lastS N 0 (pre ++ [(S, stepO a1 0 2 S)]) = (0, 2) := by rw [hls, hst]
          rw [hst] at hL hlen
          rw [hst] at crBx_0 crBx_2 HBx ⊢
          dsimp only at crBx_0 crBx_2 HBx ⊢
          rw [Int.sub_zero] at cv1_0
          have hs3 : (N == N) = true := by rw [beq_iff_eq]
          clear hst hls
          gi_wp2_with fail
          simp only [postP, hL, hlen, Int.natCast_add, Int.cast_ofNat_Int, decide_true, decide_false, Int.sub_zero, Int.reduceEq, eq_self]
          have F0 := HI.out.1
          have F0 := F0.far (p := ⟨m + 1 + 1 + 1 + 1, 0, none⟩) N0_4.out (.int .i64 0)
          have F0 := F0.far (p := ⟨m + 1 + 1 + 1 + 1, 1, none⟩) N0_4.out (.int .u64 5)
          have F0 := F0.far (p := ⟨m + 1 + 1 + 1 + 1, 2, none⟩) N0_4.out (.int .i64 2)
          have F0 := F0.far (p := ⟨m + 1 + 1 + 1, 0, none⟩) N0_3.out (.int .i64 ((K : Nat) + 1))
          have F1 := HI.out.2.1
          have F1 := F1.far (p := ⟨m + 1 + 1 + 1 + 1, 0, none⟩) N1_4.out (.int .i64 0)
          have F1 := F1.far (p := ⟨m + 1 + 1 + 1 + 1, 1, none⟩) N1_4.out (.int .u64 5)
          have F1 := F1.far (p := ⟨m + 1 + 1 + 1 + 1, 2, none⟩) N1_4.out (.int .i64 2)
          have F1 := F1.far (p := ⟨m + 1 + 1 + 1, 0, none⟩) N1_3.out (.int .i64 ((K : Nat) + 1))
          have F2 := HI.out.2.2.1
          have F2 := F2.far (p := ⟨m + 1 + 1 + 1 + 1, 0, none⟩) N2_4.out (.int .i64 0)
          have F2 := F2.far (p := ⟨m + 1 + 1 + 1 + 1, 1, none⟩) N2_4.out (.int .u64 5)
          have F2 := F2.far (p := ⟨m + 1 + 1 + 1 + 1, 2, none⟩) N2_4.out (.int .i64 2)
          have F2 := F2.far (p := ⟨m + 1 + 1 + 1, 0, none⟩) N2_3.out (.int .i64 ((K : Nat) + 1))
          have F3 := HI.out.2.2.2.1
          have F3 := F3.far (p := ⟨m + 1 + 1 + 1 + 1, 0, none⟩) N3_4.out (.int .i64 0)
          have F3 := F3.far (p := ⟨m + 1 + 1 + 1 + 1, 1, none⟩) N3_4.out (.int .u64 5)
          have F3 := F3.far (p := ⟨m + 1 + 1 + 1 + 1, 2, none⟩) N3_4.out (.int .i64 2)
          have F3 := F3.far (p := ⟨m + 1 + 1 + 1, 0, none⟩) N3_3.out (.int .i64 ((K : Nat) + 1))
          have F4 := HI.out.2.2.2.2.1
          have F4 := F4.far (p := ⟨m + 1 + 1 + 1 + 1, 0, none⟩) N4_4.out (.int .i64 0)
          have F4 := F4.far (p := ⟨m + 1 + 1 + 1 + 1, 1, none⟩) N4_4.out (.int .u64 5)
          have F4 := F4.far (p := ⟨m + 1 + 1 + 1 + 1, 2, none⟩) N4_4.out (.int .i64 2)
          have F4 := F4.far (p := ⟨m + 1 + 1 + 1, 0, none⟩) N4_3.out (.int .i64 ((K : Nat) + 1))
          have F5 := HI.out.2.2.2.2.2.1
          have F5 := F5.far (p := ⟨m + 1 + 1 + 1 + 1, 0, none⟩) N5_4.out (.int .i64 0)
          have F5 := F5.far (p := ⟨m + 1 + 1 + 1 + 1, 1, none⟩) N5_4.out (.int .u64 5)
          have F5 := F5.far (p := ⟨m + 1 + 1 + 1 + 1, 2, none⟩) N5_4.out (.int .i64 2)
          have F5 := F5.far (p := ⟨m + 1 + 1 + 1, 0, none⟩) N5_3.out (.int .i64 ((K : Nat) + 1))
          have F6 := HI.out.2.2.2.2.2.2.1
          have F6 := F6.far (p := ⟨m + 1 + 1 + 1 + 1, 0, none⟩) N6_4.out (.int .i64 0)
          have F6 := F6.far (p := ⟨m + 1 + 1 + 1 + 1, 1, none⟩) N6_4.out (.int .u64 5)
          have F6 := F6.far (p := ⟨m + 1 + 1 + 1 + 1, 2, none⟩) N6_4.out (.int .i64 2)
          have F6 := F6.far (p := ⟨m + 1 + 1 + 1, 0, none⟩) N6_3.out (.int .i64 ((K : Nat) + 1))
          have F7 := HI.out.2.2.2.2.2.2.2.1
          have F7 := F7.far (p := ⟨m + 1 + 1 + 1 + 1, 0, none⟩) N7_4.out (.int .i64 0)
          have F7 := F7.far (p := ⟨m + 1 + 1 + 1 + 1, 1, none⟩) N7_4.out (.int .u64 5)
          have F7 := F7.far (p := ⟨m + 1 + 1 + 1 + 1, 2, none⟩) N7_4.out (.int .i64 2)
          have F7 := F7.far (p := ⟨m + 1 + 1 + 1, 0, none⟩) N7_3.out (.int .i64 ((K : Nat) + 1))
          have F8 := HI.out.2.2.2.2.2.2.2.2.1
          have F8 := F8.far (p := ⟨m + 1 + 1 + 1 + 1, 0, none⟩) N8_4.out (.int .i64 0)
          have F8 := F8.far (p := ⟨m + 1 + 1 + 1 + 1, 1, none⟩) N8_4.out (.int .u64 5)
          have F8 := F8.far (p := ⟨m + 1 + 1 + 1 + 1, 2, none⟩) N8_4.out (.int .i64 2)
          have F8 := F8.set 0 (.int .i64 ((K : Nat) + 1))
          have F9 := HI.out.2.2.2.2.2.2.2.2.2.1
          have F9 := F9.set 0 (.int .i64 0)
          have F9 := F9.set 1 (.int .u64 5)
          have F9 := F9.set 2 (.int .i64 2)
          have F9 := F9.far (p := ⟨m + 1 + 1 + 1, 0, none⟩) N9_3.out (.int .i64 ((K : Nat) + 1))
          have FB := HI.out.2.2.2.2.2.2.2.2.2.2
          have FK : KeepsFrom (m + 8) W W := (KeepsOthers.refl _).from _
          have FS := keepsS_refl (RunS (m + 1 + 1 + 1 + 1 + 1) (m + 1 + 1 + 1 + 1 + 1 + 1 + 1) (m + 1 + 1 + 1 + 1 + 1 + 1) g) (m + 8 + 2) W
          have FB := FB.setCell (p := ⟨m + 1 + 1 + 1 + 1, 0, none⟩) B4s.out (.int .i64 0)
          have FK := keepsF_set FK ⟨m + 1 + 1 + 1 + 1, 0, none⟩ (.int .i64 0)
          have FS := keepsS_set FS ⟨m + 1 + 1 + 1 + 1, 0, none⟩ (.int .i64 0) S4s.out E4s.out
          have FB := FB.setCell (p := ⟨m + 1 + 1 + 1 + 1, 1, none⟩) B4s.out (.int .u64 5)
          have FK := keepsF_set FK ⟨m + 1 + 1 + 1 + 1, 1, none⟩ (.int .u64 5)
          have FS := keepsS_set FS ⟨m + 1 + 1 + 1 + 1, 1, none⟩ (.int .u64 5) S4s.out E4s.out
          have FB := FB.setCell (p := ⟨m + 1 + 1 + 1 + 1, 2, none⟩) B4s.out (.int .i64 2)
          have FK := keepsF_set FK ⟨m + 1 + 1 + 1 + 1, 2, none⟩ (.int .i64 2)
          have FS := keepsS_set FS ⟨m + 1 + 1 + 1 + 1, 2, none⟩ (.int .i64 2) S4s.out E4s.out
          have FB := FB.setCell (p := ⟨m + 1 + 1 + 1, 0, none⟩) B3s.out (.int .i64 ((K : Nat) + 1))
          have FK := keepsF_set FK ⟨m + 1 + 1 + 1, 0, none⟩ (.int .i64 ((K : Nat) + 1))
          have FS := keepsS_set FS ⟨m + 1 + 1 + 1, 0, none⟩ (.int .i64 ((K : Nat) + 1)) S3s.out E3s.out
          simp only [List.set_cons_zero, List.set_cons_succ, Int.sub_zero, Int.reduceEq, eq_self, decide_true, decide_false] at F6 F7 F8 F9
          exact ⟨FK, FS, F0, F1, F2, F3, F4, F5, F6, F7, F8, F9, FB⟩
      case hdone =>
        rintro D W hD hI hK
        obtain ⟨b0, b1, b2, b3, bq, bm, v1, v2, v3, v4, hB⟩ := hI
        have hlf : (runL a1 N 0 l2).length = l2.length := runL_length a1 l2 N 0
        rw [hlf] at v3
        obtain ⟨C, hC⟩ : ∃ C, W.heap.size = C := ⟨_, rfl⟩
        have hDC : D < C := by have := (Array.getElem?_eq_some_iff.1 hK).1; omega
        have hmC : m + 8 ≤ C := by have := (Array.getElem?_eq_some_iff.1 hK).1; omega
        have cm0 := bm.cell 0
        have cm1 := bm.cell 1
        have cm2 := bm.cell 2
        have cb0 := b0.cell 0
        have cb1 := b1.cell 0
        simp only [List.getElem?_cons_zero, List.getElem?_cons_succ] at cm0 cm1 cm2 cb0 cb1
        have k0 : b < C := by omega
        have k1 : b + 1 < C := by omega
        have k2 : m < C := by omega
        have HI := Lib.hid (And.intro b0 (And.intro b1 (And.intro b2 (And.intro b3 (And.intro bm (And.intro v3 (And.intro hB hK)))))))
        clear b0 b1 b2 b3 bq bm v1 v2 v3 v4 hB hK


        go_wp2_with fail
        refine (run_any _ _ _ _ _ _ _ _).mono ?_
        rintro e w4 ⟨rfl, rfl⟩
        go_wp2_with fail
        have HRm2 : Hid (∀ V, V = (((W.alloc (.cells #[.int .i64 0] 3)).alloc (.cells #[.int .i64 N, .int .u64 5, .int .i64 0] 24)).alloc (.cells #[.string a1] 9)).alloc (.cells #[.slice A l2.length cap] 33) → Row V (b) 9 [.string a1] ∧ Row V (b + 1) 33 [.slice A l2.length cap] ∧ Row V (b + 1 + 1) 5 [.int .u8 a3] ∧ Row V (b + 1 + 1 + 1) 4 [.bool false] ∧ Row V (m + 1 + 1 + 1) 3 [.int .i64 (l2.length : Nat)] ∧ Row V (C) 3 [.int .i64 0] ∧ Row V (C + 1) 24 [.int .i64 N, .int .u64 5, .int .i64 0] ∧ Row V (C + 1 + 1) 9 [.string a1] ∧ Row V (C + 1 + 1 + 1) 33 [.slice A l2.length cap] ∧ V.heap[D]? = some (.deferred (some [])) ∧ Below b w V ∧ V.heap.size = C + 4) := Lib.hid fun V hV => by
          subst hV
          have z0 : W.heap.size = C := hC
          have e0 := Row.new W 3 [.int .i64 0]
          rw [z0] at e0
          have r0_0 := HI.out.1.alloc (.cells #[.int .i64 0] 3)
          have r0_1 := HI.out.2.1.alloc (.cells #[.int .i64 0] 3)
          have r0_2 := HI.out.2.2.1.alloc (.cells #[.int .i64 0] 3)
          have r0_3 := HI.out.2.2.2.1.alloc (.cells #[.int .i64 0] 3)
          have r0_4 := HI.out.2.2.2.2.2.1.alloc (.cells #[.int .i64 0] 3)
          have dd0 := (Below.heap_alloc W (.cells #[.int .i64 0] 3) D (by omega)).trans HI.out.2.2.2.2.2.2.2
          have z1 : (W.alloc (.cells #[.int .i64 0] 3)).heap.size = C + 1 := by rw [World.size_alloc, z0]
          have bb0 := HI.out.2.2.2.2.2.2.1.alloc (by omega : b ≤ W.heap.size) (.cells #[.int .i64 0] 3)
          generalize W.alloc (.cells #[.int .i64 0] 3) = x1 at r0_0 r0_1 r0_2 r0_3 r0_4 e0 z1 bb0 dd0 ⊢
          have e1 := Row.new x1 24 [.int .i64 N, .int .u64 5, .int .i64 0]
          rw [z1] at e1
          have r1_0 := r0_0.alloc (.cells #[.int .i64 N, .int .u64 5, .int .i64 0] 24)
          have r1_1 := r0_1.alloc (.cells #[.int .i64 N, .int .u64 5, .int .i64 0] 24)
          have r1_2 := r0_2.alloc (.cells #[.int .i64 N, .int .u64 5, .int .i64 0] 24)
          have r1_3 := r0_3.alloc (.cells #[.int .i64 N, .int .u64 5, .int .i64 0] 24)
          have r1_4 := r0_4.alloc (.cells #[.int .i64 N, .int .u64 5, .int .i64 0] 24)
          have r1_5 := e0.alloc (.cells #[.int .i64 N, .int .u64 5, .int .i64 0] 24)
          have dd1 := (Below.heap_alloc x1 (.cells #[.int .i64 N, .int .u64 5, .int .i64 0] 24) D (by omega)).trans dd0
          have z2 : (x1.alloc (.cells #[.int .i64 N, .int .u64 5, .int .i64 0] 24)).heap.size = C + 1 + 1 := by rw [World.size_alloc, z1]
          have bb1 := bb0.alloc (by omega : b ≤ x1.heap.size) (.cells #[.int .i64 N, .int .u64 5, .int .i64 0] 24)
          generalize x1.alloc (.cells #[.int .i64 N, .int .u64 5, .int .i64 0] 24) = x2 at r1_0 r1_1 r1_2 r1_3 r1_4 r1_5 e1 z2 bb1 dd1 ⊢
          have e2 := Row.new x2 9 [.string a1]
          rw [z2] at e2
          have r2_0 := r1_0.alloc (.cells #[.string a1] 9)
          have r2_1 := r1_1.alloc (.cells #[.string a1] 9)
          have r2_2 := r1_2.alloc (.cells #[.string a1] 9)
          have r2_3 := r1_3.alloc (.cells #[.string a1] 9)
          have r2_4 := r1_4.alloc (.cells #[.string a1] 9)
          have r2_5 := r1_5.alloc (.cells #[.string a1] 9)
          have r2_6 := e1.alloc (.cells #[.string a1] 9)
          have dd2 := (Below.heap_alloc x2 (.cells #[.string a1] 9) D (by omega)).trans dd1
          have z3 : (x2.alloc (.cells #[.string a1] 9)).heap.size = C + 1 + 1 + 1 := by rw [World.size_alloc, z2]
          have bb2 := bb1.alloc (by omega : b ≤ x2.heap.size) (.cells #[.string a1] 9)
          generalize x2.alloc (.cells #[.string a1] 9) = x3 at r2_0 r2_1 r2_2 r2_3 r2_4 r2_5 r2_6 e2 z3 bb2 dd2 ⊢
          have e3 := Row.new x3 33 [.slice A l2.length cap]
          rw [z3] at e3
          have r3_0 := r2_0.alloc (.cells #[.slice A l2.length cap] 33)
          have r3_1 := r2_1.alloc (.cells #[.slice A l2.length cap] 33)
          have r3_2 := r2_2.alloc (.cells #[.slice A l2.length cap] 33)
          have r3_3 := r2_3.alloc (.cells #[.slice A l2.length cap] 33)
          have r3_4 := r2_4.alloc (.cells #[.slice A l2.length cap] 33)
          have r3_5 := r2_5.alloc (.cells #[.slice A l2.length cap] 33)
          have r3_6 := r2_6.alloc (.cells #[.slice A l2.length cap] 33)
          have r3_7 := e2.alloc (.cells #[.slice A l2.length cap] 33)
          have dd3 := (Below.heap_alloc x3 (.cells #[.slice A l2.length cap] 33) D (by omega)).trans dd2
          have z4 : (x3.alloc (.cells #[.slice A l2.length cap] 33)).heap.size = C + 1 + 1 + 1 + 1 := by rw [World.size_alloc, z3]
          have bb3 := bb2.alloc (by omega : b ≤ x3.heap.size) (.cells #[.slice A l2.length cap] 33)
          generalize x3.alloc (.cells #[.slice A l2.length cap] 33) = x4 at r3_0 r3_1 r3_2 r3_3 r3_4 r3_5 r3_6 r3_7 e3 z4 bb3 dd3 ⊢
          exact ⟨r3_0, r3_1, r3_2, r3_3, r3_4, r3_5, r3_6, r3_7, e3, dd3, bb3, by omega⟩
        have H2 := Lib.hid (HRm2.out _ rfl)
        clear HRm2 cm0 cm1 cm2 cb0 cb1
        generalize (((W.alloc (.cells #[.int .i64 0] 3)).alloc (.cells #[.int .i64 N, .int .u64 5, .int .i64 0] 24)).alloc (.cells #[.string a1] 9)).alloc (.cells #[.slice A l2.length cap] 33) = V0 at H2 ⊢
        have z2 : V0.heap.size = C + 4 := H2.out.2.2.2.2.2.2.2.2.2.2.2
        have hRun2 : RunAt V0 (C + 1) (C + 1 + 1 + 1) (C + 1 + 1) g off cap A N 5 0 a1 l2 := ⟨H2.out.2.2.2.2.2.2.1, H2.out.2.2.2.2.2.2.2.2.1, H2.out.2.2.2.2.2.2.2.1, by omega, HT.out V0 (by rw [HBs.out]; exact H2.out.2.2.2.2.2.2.2.2.2.2.1)⟩
        have HI2 : Hid ((fun (pre : List RunI) V => (pre.length : Int) ≤ a3 ∧ Row V (b) 9 [.string a1] ∧ Row V (b + 1) 33 [.slice A l2.length cap] ∧ Row V (b + 1 + 1) 5 [.int .u8 a3] ∧ Row V (b + 1 + 1 + 1) 4 [.bool false] ∧ Row V (m + 1 + 1 + 1) 3 [.int .i64 (l2.length : Nat)] ∧ Row V C 3 [.int .i64 (pre.length : Nat)] ∧ V.heap[D]? = some (.deferred (some [])) ∧ Below b w V) [] V0) := Lib.hid ⟨by simpa using h3a, H2.out.1, H2.out.2.1, H2.out.2.2.1, H2.out.2.2.2.1, H2.out.2.2.2.2.1, H2.out.2.2.2.2.2.1, H2.out.2.2.2.2.2.2.2.2.2.1, H2.out.2.2.2.2.2.2.2.2.2.2.1⟩
        have hKb2 : ∀ (W : World) (o' : Obj), KeepsS (RunS (C + 1) (C + 1 + 1 + 1) (C + 1 + 1) g) (V0.heap.size + 2) W (W.putObj (V0.heap.size + 1) o') := keepsS_b (by unfold RunS; omega) (by omega)
        rw [← wpIn_wide (n := 6)]
        refine' range_pre rfl (by omega) (gf := 19) (lb := #[.pointer (some ⟨C + 1, 0, none⟩), .pointer (some ⟨C + 1 + 1 + 1, 0, none⟩), .pointer (some ⟨C + 1 + 1, 0, none⟩)]) rfl trivial (enters_of Tryd.func19 (by kernel_rfl) rfl)
          (run_stops 5 (by omega) _ _ _ g off cap A N 5 0 a1 l2 hA (by omega) (by omega) (by omega) ⟨fun _ => hN1, hN9⟩ V0 hRun2) (fun _ _ => trivial) keepsS_t hKb2 (Below.refl _ _) (fun _ => rfl)
          (fun pre V => (pre.length : Int) ≤ a3 ∧ Row V (b) 9 [.string a1] ∧ Row V (b + 1) 33 [.slice A l2.length cap] ∧ Row V (b + 1 + 1) 5 [.int .u8 a3] ∧ Row V (b + 1 + 1 + 1) 4 [.bool false] ∧ Row V (m + 1 + 1 + 1) 3 [.int .i64 (l2.length : Nat)] ∧ Row V C 3 [.int .i64 (pre.length : Nat)] ∧ V.heap[D]? = some (.deferred (some [])) ∧ Below b w V)
          (fun c pre V => (c = Code.exit 4 ∧ (pre.length : Int) = a3 + 1) ∧ Row V (b) 9 [.string a1] ∧ Row V (b + 1) 33 [.slice A l2.length cap] ∧ Row V (b + 1 + 1) 5 [.int .u8 a3] ∧ Row V (b + 1 + 1 + 1) 4 [.bool false] ∧ Row V (m + 1 + 1 + 1) 3 [.int .i64 (l2.length : Nat)] ∧ Row V C 3 [.int .i64 (pre.length : Nat)] ∧ V.heap[D]? = some (.deferred (some [])) ∧ Below b w V)
          (OwnK.and (OwnK.pure (φ := fun (pre : List RunI) => (pre.length : Int) ≤ a3)) (OwnK.and (OwnK.low (fun (_ : List RunI) => b) (fun (pre : List RunI) => .cells [.string a1].toArray 9 (0, 0)) (fun _ => by omega)) (OwnK.and (OwnK.low (fun (_ : List RunI) => b + 1) (fun (pre : List RunI) => .cells [.slice A l2.length cap].toArray 33 (0, 0)) (fun _ => by omega)) (OwnK.and (OwnK.low (fun (_ : List RunI) => b + 1 + 1) (fun (pre : List RunI) => .cells [.int .u8 a3].toArray 5 (0, 0)) (fun _ => by omega)) (OwnK.and (OwnK.low (fun (_ : List RunI) => b + 1 + 1 + 1) (fun (pre : List RunI) => .cells [.bool false].toArray 4 (0, 0)) (fun _ => by omega)) (OwnK.and (OwnK.low (fun (_ : List RunI) => m + 1 + 1 + 1) (fun (pre : List RunI) => .cells [.int .i64 (l2.length : Nat)].toArray 3 (0, 0)) (fun _ => by omega)) (OwnK.and (OwnK.low (fun (_ : List RunI) => C) (fun (pre : List RunI) => .cells [.int .i64 (pre.length : Nat)].toArray 3 (0, 0)) (fun _ => by omega)) (OwnK.and (OwnK.low (fun (_ : List RunI) => D) (fun (_ : List RunI) => .deferred (some [])) (fun _ => by omega)) (OwnK.below (by omega) (by omega))))))))))
          (fun c => OwnK.and (OwnK.pure (φ := fun (pre : List RunI) => c = Code.exit 4 ∧ (pre.length : Int) = a3 + 1)) (OwnK.and (OwnK.low (fun (_ : List RunI) => b) (fun (pre : List RunI) => .cells [.string a1].toArray 9 (0, 0)) (fun _ => by omega)) (OwnK.and (OwnK.low (fun (_ : List RunI) => b + 1) (fun (pre : List RunI) => .cells [.slice A l2.length cap].toArray 33 (0, 0)) (fun _ => by omega)) (OwnK.and (OwnK.low (fun (_ : List RunI) => b + 1 + 1) (fun (pre : List RunI) => .cells [.int .u8 a3].toArray 5 (0, 0)) (fun _ => by omega)) (OwnK.and (OwnK.low (fun (_ : List RunI) => b + 1 + 1 + 1) (fun (pre : List RunI) => .cells [.bool false].toArray 4 (0, 0)) (fun _ => by omega)) (OwnK.and (OwnK.low (fun (_ : List RunI) => m + 1 + 1 + 1) (fun (pre : List RunI) => .cells [.int .i64 (l2.length : Nat)].toArray 3 (0, 0)) (fun _ => by omega)) (OwnK.and (OwnK.low (fun (_ : List RunI) => C) (fun (pre : List RunI) => .cells [.int .i64 (pre.length : Nat)].toArray 3 (0, 0)) (fun _ => by omega)) (OwnK.and (OwnK.low (fun (_ : List RunI) => D) (fun (_ : List RunI) => .deferred (some [])) (fun _ => by omega)) (OwnK.below (by omega) (by omega))))))))))
          HI2.out
          (fun x a' W => a' = { tmps := (List.toArray (Value.int IntKind.u8 a0 :: Value.string a1 :: Value.slice A l2.length cap :: Value.int IntKind.u8 a3 :: undef :: Value.pointer (some { block := b, off := 0 }) :: Value.pointer (some { block := b + 1, off := 0 }) :: Value.pointer (some { block := b + 1 + 1, off := 0 }) :: Value.pointer (some { block := b + 1 + 1 + 1, off := 0 }) :: Value.pointer (some { block := q, off := 0 }) :: undef :: u11 :: Value.pointer (some { block := m, off := 0 }) :: Value.int IntKind.i64 0 :: Value.pointer (some { block := m + 1, off := 0 }) :: Value.pointer (some { block := m + 1 + 1, off := 0 }) :: Value.pointer (some { block := m + 1 + 1 + 1, off := 0 }) :: Value.pointer (some { block := m + 1 + 1 + 1 + 1, off := 0 }) :: undef :: undef :: Value.pointer (some { block := C, off := 0 }) :: Value.bool true :: Value.bool false :: Value.slice A l2.length cap :: Value.int IntKind.i64 ↑l2.length :: Value.bool (decide ((30 : Int) < ↑l2.length)) :: Value.bool (decide ((30 : Int) < ↑l2.length)) :: Value.string a1 :: Value.int IntKind.i64 ↑a1.size :: Value.bool (decide ((60 : Int) < ↑a1.size)) :: Value.bool (decide ((30 : Int) < ↑l2.length) || decide ((60 : Int) < ↑a1.size)) :: Value.int IntKind.u8 a0 :: Value.int IntKind.u8 (a0 % 9) :: Value.int IntKind.i64 (a0 % 9) :: Value.int IntKind.i64 N :: Value.slice A l2.length cap :: Value.int IntKind.i64 ↑l2.length :: Value.int IntKind.i64 ↑k :: Value.bool false :: u39 :: u40 :: u41 :: u42 :: u43 :: u44 :: Value.tuple #[Value.agg #[Value.int IntKind.i64 N, Value.int IntKind.u64 5, Value.int IntKind.i64 0], Value.int IntKind.i64 0] :: Value.int IntKind.i64 N :: Value.tuple #[Value.agg #[Value.int IntKind.i64 N, Value.int IntKind.u64 5, Value.int IntKind.i64 0], Value.int IntKind.i64 0] :: Value.agg #[Value.int IntKind.i64 N, Value.int IntKind.u64 5, Value.int IntKind.i64 0] :: Value.int IntKind.i64 0 :: Value.agg #[Value.int IntKind.i64 N, Value.int IntKind.u64 5, Value.int IntKind.i64 0] :: Value.agg #[Value.int IntKind.i64 N, Value.int IntKind.u64 5, Value.int IntKind.i64 0] :: Value.string a1 :: Value.slice A l2.length cap :: Value.func (Fn.func 19) #[] #[Value.pointer (some { block := m + 1 + 1 + 1 + 1 + 1, off := 0 }), Value.pointer (some { block := m + 1 + 1 + 1 + 1 + 1 + 1 + 1, off := 0 }), Value.pointer (some { block := m + 1 + 1 + 1 + 1 + 1 + 1, off := 0 })] :: undef :: undef :: undef :: undef :: undef :: undef :: undef :: undef :: undef :: undef :: undef :: undef :: undef :: undef :: undef :: undef :: undef :: undef :: undef :: undef :: undef :: undef :: undef :: undef :: undef :: undef :: undef :: undef :: undef :: undef :: undef :: undef :: undef :: undef :: undef :: undef :: undef :: undef :: undef :: undef :: undef :: undef :: undef :: undef :: undef :: undef :: undef :: undef :: undef :: undef :: undef :: undef :: undef :: undef :: undef :: undef :: undef :: undef :: Value.agg #[Value.int IntKind.i64 N, Value.int IntKind.u64 5, Value.int IntKind.i64 0] :: Value.string a1 :: Value.slice A l2.length cap :: Value.func (Fn.func 19) #[] #[Value.pointer (some { block := C + 1, off := 0 }), Value.pointer (some { block := C + 1 + 1 + 1, off := 0 }), Value.pointer (some { block := C + 1 + 1, off := 0 })] :: .string x.1 :: .agg #[.int .i64 x.2.1, .int .u64 5, .int .i64 x.2.2] :: undef :: undef :: undef :: undef :: undef :: undef :: undef :: undef :: undef :: undef :: undef :: undef :: undef :: undef :: undef :: undef :: undef :: undef :: undef :: undef :: [])), defers := [] })
          ?hAp2 ?hassign2 ?hbody2 ?hdone2 ?hstop2
        case hAp2 => intro x a' W o' h; exact h
        case hassign2 =>
          intro y pre x V K' hI hpre hsz hK'
          obtain ⟨x1, x2, x3⟩ := x
          dsimp only [encR] at hK' ⊢
          gi_wp2
          exact hK' _ _ ((KeepsOthers.refl _).from _) (keepsS_refl _ _ _) hI rfl
        case hbody2 =>
          rintro y pre x a' V ⟨hpl, b0, b1, b2, b3, v3, cC, hD0, hB⟩ hpre hsz rfl
          have cc0 := cC.cell 0
          have cf0 := cC.frozen 0
          have cc2 := b2.cell 0
          simp only [List.getElem?_cons_zero] at cc0 cc2
          have hpl2 : pre.length < l2.length := by have := hpre.length_le; rw [runL_length, List.length_append, List.length_singleton] at this; omega
          obtain ⟨K, hK0⟩ : ∃ K, pre.length = K := ⟨_, rfl⟩
          have hlen : (pre ++ [x]).length = K + 1 := by rw [List.length_append, hK0]; rfl
          rw [hK0] at hpl hpl2 cc0
          have hKI : (K : Int) < 31 := by omega
          have cV : C < V.heap.size := cC.lt
          have bV2 : b + 1 + 1 < V.heap.size := b2.lt
          have HV := Lib.hid (And.intro b0 (And.intro b1 (And.intro b2 (And.intro b3 (And.intro v3 (And.intro cC (And.intro hD0 hB)))))))
          have hns : ¬ RunS (C + 1) (C + 1 + 1 + 1) (C + 1 + 1) g C := by unfold RunS; omega
          have HNS := Lib.hid hns
          clear b0 b1 b2 b3 v3 cC hD0 hB hpre hns
          have G0 := HV.out.1.far (p := ⟨C, 0, none⟩) (by dsimp only; omega) (.int .i64 ((K : Nat) + 1))
          have G1 := HV.out.2.1.far (p := ⟨C, 0, none⟩) (by dsimp only; omega) (.int .i64 ((K : Nat) + 1))
          have G2 := HV.out.2.2.1.far (p := ⟨C, 0, none⟩) (by dsimp only; omega) (.int .i64 ((K : Nat) + 1))
          have G3 := HV.out.2.2.2.1.far (p := ⟨C, 0, none⟩) (by dsimp only; omega) (.int .i64 ((K : Nat) + 1))
          have G4 := HV.out.2.2.2.2.1.far (p := ⟨C, 0, none⟩) (by dsimp only; omega) (.int .i64 ((K : Nat) + 1))
          have G5 := HV.out.2.2.2.2.2.1.set 0 (.int .i64 ((K : Nat) + 1))
          simp only [List.set_cons_zero] at G5
          have G6 := (Below.heap_setCell V ⟨C, 0, none⟩ (.int .i64 ((K : Nat) + 1)) D (by dsimp only; omega)).trans HV.out.2.2.2.2.2.2.1
          have G7 := HV.out.2.2.2.2.2.2.2.setCell (p := ⟨C, 0, none⟩) (by dsimp only; omega) (.int .i64 ((K : Nat) + 1))
          have GK := keepsF_set ((KeepsOthers.refl V).from (C + 4)) ⟨C, 0, none⟩ (.int .i64 ((K : Nat) + 1))
          have GS := keepsS_set (keepsS_refl (RunS (C + 1) (C + 1 + 1 + 1) (C + 1 + 1) g) (C + 4 + 2) V) ⟨C, 0, none⟩ (.int .i64 ((K : Nat) + 1)) HNS.out (by dsimp only; omega)
          have HG := Lib.hid (And.intro GK (And.intro GS (And.intro G0 (And.intro G1 (And.intro G2 (And.intro G3 (And.intro G4 (And.intro G5 (And.intro G6 G7)))))))))
          have g2 := G2.cell 0
          have g5 := G5.cell 0
          simp only [List.getElem?_cons_zero] at g2 g5
          clear GK GS G0 G1 G2 G3 G4 G5 G6 G7
          by_cases hgo : (K : Int) + 1 ≤ a3
          · have hgt : ¬ a3 < (K : Int) + 1 := by omega
            gi_wp2_with fail
            simp only [postP, hlen, Int.natCast_add, Int.cast_ofNat_Int]
            exact ⟨HG.out.1, HG.out.2.1, hgo, HG.out.2.2⟩
          · have hgt : a3 < (K : Int) + 1 := by omega
            have heq : (K : Int) + 1 = a3 + 1 := by omega
            have HE := Lib.hid heq
            clear heq
            gi_wp2_with fail
            simp only [postP, hlen, Int.natCast_add, Int.cast_ofNat_Int]
            exact ⟨HG.out.1, HG.out.2.1, ⟨trivial, HE.out⟩, HG.out.2.2⟩
        case hdone2 =>
          rintro D2 V hD2 ⟨hpl, b0, b1, b2, b3, v3, cC, hD0, hB⟩ hK2
          rw [runL_length] at hpl cC
          have cc0 := cC.cell 0
          have cc1 := b1.cell 0
          have cc2 := b2.cell 0
          have cc3 := v3.cell 0
          have cf3 := b3.frozen 0
          have cd3 := b3.cell 0
          simp only [List.getElem?_cons_zero] at cc0 cc1 cc2 cc3 cd3
          have hcut : min (l2.length : Int) (a3 + 1) = (l2.length : Int) := by omega
          have hmn := fun ts t W => min2i (P := Tryd.prog) ts t (l2.length : Int) (a3 + 1) W
          have bV : b < V.heap.size := b0.lt
          have HV := Lib.hid (And.intro b3 (And.intro hD0 (And.intro hB hK2)))
          clear b0 b1 b2 b3 v3 cC hD0 hB hK2
          rw [hcut] at hmn
          go_wp2_with fail
          have d2 : (V.setCell ⟨b + 1 + 1 + 1, 0, none⟩ (.bool true)).heap[D2]? = some (.deferred (some [])) := (Below.heap_setCell _ _ _ D2 (by dsimp only; omega)).trans HV.out.2.2.2
          have d1 : ((V.setCell ⟨b + 1 + 1 + 1, 0, none⟩ (.bool true)).putObj D2 (.deferred none)).heap[D]? = some (.deferred (some [])) := (World.putObj_heap_other (by omega)).trans ((Below.heap_setCell _ _ _ D (by dsimp only; omega)).trans HV.out.2.1)
          have r1 : Row (((V.setCell ⟨b + 1 + 1 + 1, 0, none⟩ (.bool true)).putObj D2 (.deferred none)).putObj D (.deferred none)) (b + 1 + 1 + 1) 4 [.bool true] := (World.putObj_heap_other (by omega)).trans ((World.putObj_heap_other (by omega)).trans (HV.out.1.set 0 (.bool true)))
          have bl : Below w.heap.size w (V.setCell ⟨b + 1 + 1 + 1, 0, none⟩ (.bool true)) := by rw [HBs.out]; exact HV.out.2.2.1.setCell (by dsimp only; omega) _
          have bl2 := (bl.trans (belowK_b (w := w) (Nat.le_refl _) _ D2 _ (.deferred none) (by omega) d2 rfl rfl)).trans (belowK_b (w := w) (Nat.le_refl _) _ D _ (.deferred none) (by omega) d1 rfl rfl)
          refine ⟨by simp, .inl ⟨_, _, rfl, run_takeDeferred d2, ?_⟩⟩
          refine ⟨by simp, .inl ⟨_, _, rfl, run_takeDeferred d1, ?_⟩⟩
          exact ⟨_, results_boolO rfl _ _ (b + 1 + 1 + 1) true rfl r1, rfl, (by have h := bl2; rw [HBs.out] at h; exact h)⟩
        case hstop2 =>
          rintro D2 c pre V hD2 hp ⟨⟨rfl, hpl⟩, b0, b1, b2, b3, v3, cC, hD0, hB⟩ hK2
          have hle := hp.length_le
          rw [runL_length] at hle
          obtain ⟨K, hK0⟩ : ∃ K, pre.length = K := ⟨_, rfl⟩
          rw [hK0] at hpl cC hle
          have cc0 := cC.cell 0
          have cc1 := b1.cell 0
          have cc2 := b2.cell 0
          have cc3 := v3.cell 0
          have cf3 := b3.frozen 0
          have cd3 := b3.cell 0
          simp only [List.getElem?_cons_zero] at cc0 cc1 cc2 cc3 cd3
          have hcut : min (l2.length : Int) (a3 + 1) = (K : Int) := by omega
          have hmn := fun ts t W => min2i (P := Tryd.prog) ts t (l2.length : Int) (a3 + 1) W
          have bV : b < V.heap.size := b0.lt
          have HV := Lib.hid (And.intro b3 (And.intro hD0 (And.intro hB hK2)))
          clear b0 b1 b2 b3 v3 cC hD0 hB hK2
          rw [hcut] at hmn
          rw [wpIn_wide]
          go_wp2_with fail
          have d2 : (V.setCell ⟨b + 1 + 1 + 1, 0, none⟩ (.bool true)).heap[D2]? = some (.deferred (some [])) := (Below.heap_setCell _ _ _ D2 (by dsimp only; omega)).trans HV.out.2.2.2
          have d1 : ((V.setCell ⟨b + 1 + 1 + 1, 0, none⟩ (.bool true)).putObj D2 (.deferred none)).heap[D]? = some (.deferred (some [])) := (World.putObj_heap_other (by omega)).trans ((Below.heap_setCell _ _ _ D (by dsimp only; omega)).trans HV.out.2.1)
          have r1 : Row (((V.setCell ⟨b + 1 + 1 + 1, 0, none⟩ (.bool true)).putObj D2 (.deferred none)).putObj D (.deferred none)) (b + 1 + 1 + 1) 4 [.bool true] := (World.putObj_heap_other (by omega)).trans ((World.putObj_heap_other (by omega)).trans (HV.out.1.set 0 (.bool true)))
          have bl : Below w.heap.size w (V.setCell ⟨b + 1 + 1 + 1, 0, none⟩ (.bool true)) := by rw [HBs.out]; exact HV.out.2.2.1.setCell (by dsimp only; omega) _
          have bl2 := (bl.trans (belowK_b (w := w) (Nat.le_refl _) _ D2 _ (.deferred none) (by omega) d2 rfl rfl)).trans (belowK_b (w := w) (Nat.le_refl _) _ D _ (.deferred none) (by omega) d1 rfl rfl)
          refine ⟨by simp, .inl ⟨_, _, rfl, run_takeDeferred d2, ?_⟩⟩
          refine ⟨by simp, .inl ⟨_, _, rfl, run_takeDeferred d1, ?_⟩⟩
          exact ⟨_, results_boolO rfl _ _ (b + 1 + 1 + 1) true rfl r1, rfl, (by have h := bl2; rw [HBs.out] at h; exact h)⟩
      case hstop =>
        rintro D c pre W hD hp h
        exact h.elim
set_option maxRecDepth 100000 in
set_option maxHeartbeats 20000000 in
theorem OtpTries_long (a0 : Int) (a1 : ByteArray) (g off cap : Nat) (A : Option Addr) (l2 : List ByteArray) (hA : 0 < l2.length → A = some ⟨g, off, none⟩) (a3 : Int) (w : World) (h0a : 0 ≤ a0) (h0b : a0 ≤ 255) (h3a : 0 ≤ a3) (h3b : a3 ≤ 255) (hlong : 30 < l2.length ∨ 60 < a1.size) (hg : g < w.heap.size)
    (htx : ∀ j, j < l2.length → w.cell? ⟨g, off + j, none⟩ = some (.string (l2.getD j ByteArray.empty))) (hG : G w) :
    Calls Tryd.prog 4 #[.int .u8 a0, .string a1, .slice A l2.length cap, .int .u8 a3] w fun e w' => e = .returned (.bool true) ∧ Below w.heap.size w w' := by
  have HA : Hid (∀ W, Below w.heap.size w W → Calls Tryd.prog 6 #[] W fun e w' => e = .returned (.bool true) ∧ Below W.heap.size W w') := Lib.hid fun W h => awake21_any W (hG.below h)
  have HT : Hid (∀ W, Below w.heap.size w W → ∀ j, j < l2.length → W.cell? ⟨g, off + j, none⟩ = some (.string (l2.getD j ByteArray.empty))) := Lib.hid fun W h j hj => (h.cell (p := ⟨g, off + j, none⟩) hg).trans (htx j hj)
  obtain ⟨b, hb⟩ : ∃ b, w.heap.size = b := ⟨_, rfl⟩
  have HBs := Lib.hid hb
  have HR0 : Hid (∀ W, W = (((w.alloc (.cells #[.string a1] 9)).alloc (.cells #[.slice A l2.length cap] 33)).alloc (.cells #[.int .u8 a3] 5)).alloc (.cells #[.bool false] 4) → Row W b 9 [.string a1] ∧ Row W (b + 1) 33 [.slice A l2.length cap] ∧ Row W (b + 2) 5 [.int .u8 a3] ∧ Row W (b + 3) 4 [.bool false] ∧ Below b w W) := Lib.hid fun W hW => by
    subst hW
    subst hb
    have r1 := ((Row.new w 9 [.string a1]).alloc (.cells #[.slice A l2.length cap] 33)).alloc (.cells #[.int .u8 a3] 5) |>.alloc (.cells #[.bool false] 4)
    have r2 := ((Row.new (w.alloc (.cells #[.string a1] 9)) 33 [.slice A l2.length cap]).alloc (.cells #[.int .u8 a3] 5)).alloc (.cells #[.bool false] 4)
    have r3 := (Row.new ((w.alloc (.cells #[.string a1] 9)).alloc (.cells #[.slice A l2.length cap] 33)) 5 [.int .u8 a3]).alloc (.cells #[.bool false] 4)
    have r4 := Row.new (((w.alloc (.cells #[.string a1] 9)).alloc (.cells #[.slice A l2.length cap] 33)).alloc (.cells #[.int .u8 a3] 5)) 4 [.bool false]
    simp only [World.size_alloc] at r2 r3 r4
    exact ⟨r1, r2, r3, r4, ((((Below.refl _ _).alloc (Nat.le_refl _) _).alloc (by simp) _).alloc (by simp; omega) _).alloc (by simp; omega) _⟩
  clear hG htx
  refine (callsIn_wide (n := 6)).1 ?_
  refine callsIn_of_wp_marks Tryd.func4 rfl trivial ?_ rfl
  simp only [Tryd.ntmps4, List.size_toArray, List.length_cons, List.length_nil, Nat.reduceAdd, Nat.reduceSub, Array.replicate_succ, Array.replicate_zero, List.push_toArray, List.append_toArray, List.nil_append, List.cons_append]
  rw [wpIn_wide]
  go_wp2_with fail
  have I0 := Lib.hid (HR0.out _ rfl)
  generalize (((w.alloc (.cells #[.string a1] 9)).alloc (.cells #[.slice A l2.length cap] 33)).alloc (.cells #[.int .u8 a3] 5)).alloc (.cells #[.bool false] 4) = w0 at I0 ⊢
  refine (HA.out _ (by rw [HBs.out]; exact I0.out.2.2.2.2)).mono ?_
  rintro e w1 ⟨rfl, hb1⟩
  have B1 := Lib.hid (I0.out.2.2.2.2.trans (hb1.mono (by have := I0.out.2.2.2.2.size; omega)))
  have I1 := Lib.hid (And.intro (I0.out.1.below hb1 I0.out.1.lt) (And.intro (I0.out.2.1.below hb1 I0.out.2.1.lt) (I0.out.2.2.2.1.below hb1 I0.out.2.2.2.1.lt)))
  have c0 := I1.out.1.cell 0
  have c1 := I1.out.2.1.cell 0
  have c3 := I1.out.2.2.cell 0
  have f3 := I1.out.2.2.frozen 0
  simp only [List.getElem?_cons_zero] at c0 c1 c3
  clear hb1
  by_cases h30 : 30 < l2.length
  · have h30I : (30 : Int) < (l2.length : Int) := by omega
    go_wp2_with fail
    exact ⟨_, results_boolO rfl _ _ (b + 1 + 1 + 1) true rfl (I1.out.2.2.set 0 (.bool true)), rfl, by have h := B1.out; rw [HBs.out]; exact h.setCell (p := ⟨b + 1 + 1 + 1, 0, none⟩) (by dsimp only; omega) _⟩
  · have h30I : ¬ (30 : Int) < (l2.length : Int) := by omega
    have h60I : (60 : Int) < (a1.size : Int) := by omega
    go_wp2_with fail
    exact ⟨_, results_boolO rfl _ _ (b + 1 + 1 + 1) true rfl (I1.out.2.2.set 0 (.bool true)), rfl, by have h := B1.out; rw [HBs.out]; exact h.setCell (p := ⟨b + 1 + 1 + 1, 0, none⟩) (by dsimp only; omega) _⟩

set_option maxRecDepth 100000 in
set_option maxHeartbeats 20000000 in
theorem OtpTries_bad (a0 : Int) (a1 : ByteArray) (g off cap : Nat) (A : Option Addr) (l2 : List ByteArray) (hA : 0 < l2.length → A = some ⟨g, off, none⟩) (a3 : Int) (w : World) (h0a : 0 ≤ a0) (h0b : a0 ≤ 255) (h3a : 0 ≤ a3) (h3b : a3 ≤ 255) (hl : l2.length ≤ 30) (hc : a1.size ≤ 60) (hbad : ¬ ∀ x ∈ l2, x.size ≤ 60) (hg : g < w.heap.size)
    (htx : ∀ j, j < l2.length → w.cell? ⟨g, off + j, none⟩ = some (.string (l2.getD j ByteArray.empty))) (hG : G w) :
    Calls Tryd.prog 4 #[.int .u8 a0, .string a1, .slice A l2.length cap, .int .u8 a3] w fun e w' => e = .returned (.bool true) ∧ Below w.heap.size w w' := by
  obtain ⟨N, hN⟩ : ∃ N, 1 + a0 % 9 = N := ⟨_, rfl⟩
  have hN1 : 1 ≤ N := by omega
  have hN9 : N ≤ 9 := by omega
  have HB : Hid (∀ W : World, Calls Tryd.prog 10 #[.int .i64 N, .int .u64 0, .int .u64 5] W fun e w' => e = .returned (.tuple #[.agg #[.int .i64 N, .int .u64 5, .int .i64 0], .int .i64 0]) ∧ Below W.heap.size W w') := Lib.hid fun W => begin_any N 0 5 W (by omega) (by omega) (by omega) (by omega) (by omega) (by omega)
  have HA : Hid (∀ W, Below w.heap.size w W → Calls Tryd.prog 6 #[] W fun e w' => e = .returned (.bool true) ∧ Below W.heap.size W w') := Lib.hid fun W h => awake21_any W (hG.below h)
  have HT : Hid (∀ W, Below w.heap.size w W → ∀ j, j < l2.length → W.cell? ⟨g, off + j, none⟩ = some (.string (l2.getD j ByteArray.empty))) := Lib.hid fun W h j hj => (h.cell (p := ⟨g, off + j, none⟩) hg).trans (htx j hj)
  have Hbad := Lib.hid hbad
  have hlI : ¬ (30 : Int) < (l2.length : Int) := by omega
  have hcI : ¬ (60 : Int) < (a1.size : Int) := by omega
  obtain ⟨b, hb⟩ : ∃ b, w.heap.size = b := ⟨_, rfl⟩
  have HBs := Lib.hid hb
  have HR0 : Hid (∀ W, W = (((w.alloc (.cells #[.string a1] 9)).alloc (.cells #[.slice A l2.length cap] 33)).alloc (.cells #[.int .u8 a3] 5)).alloc (.cells #[.bool false] 4) → Row W b 9 [.string a1] ∧ Row W (b + 1) 33 [.slice A l2.length cap] ∧ Row W (b + 2) 5 [.int .u8 a3] ∧ Row W (b + 3) 4 [.bool false] ∧ Below b w W) := Lib.hid fun W hW => by
    subst hW
    subst hb
    have r1 := ((Row.new w 9 [.string a1]).alloc (.cells #[.slice A l2.length cap] 33)).alloc (.cells #[.int .u8 a3] 5) |>.alloc (.cells #[.bool false] 4)
    have r2 := ((Row.new (w.alloc (.cells #[.string a1] 9)) 33 [.slice A l2.length cap]).alloc (.cells #[.int .u8 a3] 5)).alloc (.cells #[.bool false] 4)
    have r3 := (Row.new ((w.alloc (.cells #[.string a1] 9)).alloc (.cells #[.slice A l2.length cap] 33)) 5 [.int .u8 a3]).alloc (.cells #[.bool false] 4)
    have r4 := Row.new (((w.alloc (.cells #[.string a1] 9)).alloc (.cells #[.slice A l2.length cap] 33)).alloc (.cells #[.int .u8 a3] 5)) 4 [.bool false]
    simp only [World.size_alloc] at r2 r3 r4
    exact ⟨r1, r2, r3, r4, ((((Below.refl _ _).alloc (Nat.le_refl _) _).alloc (by simp) _).alloc (by simp; omega) _).alloc (by simp; omega) _⟩
  clear hG htx hbad hl hc
  refine (callsIn_wide (n := 6)).1 ?_
  refine callsIn_of_wp_marks Tryd.func4 rfl trivial ?_ rfl
  simp only [Tryd.ntmps4, List.size_toArray, List.length_cons, List.length_nil, Nat.reduceAdd, Nat.reduceSub, Array.replicate_succ, Array.replicate_zero, List.push_toArray, List.append_toArray, List.nil_append, List.cons_append]
  rw [wpIn_wide]
  go_wp2_with fail
  have I0 := Lib.hid (HR0.out _ rfl)
  generalize (((w.alloc (.cells #[.string a1] 9)).alloc (.cells #[.slice A l2.length cap] 33)).alloc (.cells #[.int .u8 a3] 5)).alloc (.cells #[.bool false] 4) = w0 at I0 ⊢
  refine (HA.out _ (by rw [HBs.out]; exact I0.out.2.2.2.2)).mono ?_
  rintro e w1 ⟨rfl, hb1⟩
  have B1 := Lib.hid (I0.out.2.2.2.2.trans (hb1.mono (by have := I0.out.2.2.2.2.size; omega)))
  have I1 := Lib.hid (And.intro (I0.out.1.below hb1 I0.out.1.lt) (And.intro (I0.out.2.1.below hb1 I0.out.2.1.lt) (And.intro (I0.out.2.2.1.below hb1 I0.out.2.2.1.lt) (I0.out.2.2.2.1.below hb1 I0.out.2.2.2.1.lt))))
  have c0 := I1.out.1.cell 0
  have c1 := I1.out.2.1.cell 0
  simp only [List.getElem?_cons_zero] at c0 c1
  have hz1 : b + 3 < w1.heap.size := I1.out.2.2.2.lt
  obtain ⟨q, hq⟩ : ∃ q, w1.heap.size = q := ⟨_, rfl⟩
  have hqb : b + 3 < q := by omega
  have hqb0 : b < q := by omega
  have hqb1 : b + 1 < q := by omega
  have hqb2 : b + 1 + 1 < q := by omega
  clear hb1
  go_wp2_with fail
  have HRq : Hid (∀ W, W = w1.alloc (.cells #[.int .i64 N] 3) → (Row W b 9 [.string a1] ∧ Row W (b + 1) 33 [.slice A l2.length cap] ∧ Row W (b + 2) 5 [.int .u8 a3] ∧ Row W (b + 3) 4 [.bool false]) ∧ Row W q 3 [.int .i64 N] ∧ Below b w W ∧ W.heap.size = q + 1) := Lib.hid fun W hW => by
    subst hW
    refine ⟨⟨I1.out.1.alloc _, I1.out.2.1.alloc _, I1.out.2.2.1.alloc _, I1.out.2.2.2.alloc _⟩, ?_, B1.out.alloc (by omega) _, by simp [hq]⟩
    rw [← hq]; exact Row.new w1 3 [.int .i64 N]
  have I2 := Lib.hid (HRq.out _ rfl)
  clear c0 c1 HRq I0
  generalize w1.alloc (.cells #[.int .i64 N] 3) = w2 at I2 ⊢
  have c0 := I2.out.1.1.cell 0
  have c1 := I2.out.1.2.1.cell 0
  have cN := I2.out.2.1.cell 0
  simp only [List.getElem?_cons_zero] at c0 c1 cN
  have HT2 := Lib.hid (HT.out w2 (by rw [HBs.out]; exact I2.out.2.2.1))
  go_loopw [37] (fun x wr => ∃ k : Nat, k ≤ l2.length ∧ x = .int .i64 k ∧ wr = w2 ∧ Hid (∀ i (h : i < l2.length), i < k → l2[i].size ≤ 60)) (fun x _ => l2.length - (intOf x).toNat)
  case atStart => exact ⟨0, Nat.zero_le _, by go_num, by simp, Lib.hid (fun i _ h => absurd h (Nat.not_lt_zero i))⟩
  case round =>
    obtain ⟨k, hk, rfl, rfl, HS⟩ := hrel
    by_cases hlt : k < l2.length
    · have hltI : (k : Int) < (l2.length : Int) := by omega
      obtain rfl := hA (by omega)
      have qs := HT2.out k hlt
      rw [List.getD_eq_getElem?_getD, List.getElem?_eq_getElem hlt, Option.getD_some] at qs
      have cr := I2.out.1.2.2.2.cell 0
      have fr := I2.out.1.2.2.2.frozen 0
      simp only [List.getElem?_cons_zero] at cr
      by_cases hs : 60 < l2[k].size
      · have hsI : (60 : Int) < (l2[k].size : Int) := by omega
        go_wp2_with fail
        exact ⟨_, results_boolO rfl _ _ (b + 1 + 1 + 1) true rfl (I2.out.1.2.2.2.set 0 (.bool true)), rfl, by have h := I2.out.2.2.1; exact h.setCell (p := ⟨b + 1 + 1 + 1, 0, none⟩) (by dsimp only; omega) _⟩
      · have hsI : ¬ (60 : Int) < (l2[k].size : Int) := by omega
        have HS2 : Hid (∀ i (h : i < l2.length), i < k + 1 → l2[i].size ≤ 60) := Lib.hid fun i h hi => by
          rcases Nat.lt_succ_iff_lt_or_eq.1 hi with h1 | rfl
          · exact HS.out i h h1
          · omega
        go_wp2_with fail
        go_roundw
        case rel => exact ⟨k + 1, by omega, by go_num, trivial, HS2⟩
        case measure => simp [intOf]; omega
    · exfalso
      refine Hbad.out fun x hx => ?_
      obtain ⟨i, hi, rfl⟩ := List.getElem_of_mem hx
      exact HS.out i hi (by omega)

theorem OtpTries_walk (a0 : Int) (a1 : ByteArray) (v2 : Value) (l2 : List ByteArray) (a3 : Int) (w : World) (w0 : (Lit.int .u8 a0).wf = true) (w1 : a1.size ≤ 140737488355328) (w2 : Strs w v2 l2) (n2 : l2.length ≤ 9223372036854775807) (w3 : (Lit.int .u8 a3).wf = true) (hG : G w) :
    Calls Tryd.prog 4 #[.int .u8 a0, .string a1, v2, .int .u8 a3] w fun e w' => e = .returned (.bool true) ∧ Below w.heap.size w w' := by
  have h0 : 0 ≤ a0 ∧ a0 ≤ 255 := by simpa [Lit.wf, IntKind.min, IntKind.max, IntKind.signed, IntKind.bits] using w0
  have h3 : 0 ≤ a3 ∧ a3 ≤ 255 := by simpa [Lit.wf, IntKind.min, IntKind.max, IntKind.signed, IntKind.bits] using w3
  obtain ⟨A, cap, g, off, rfl, hA, htx⟩ := w2
  obtain ⟨g', hg', hA', htx'⟩ : ∃ g', g' < w.heap.size ∧ (0 < l2.length → A = some ⟨g', off, none⟩) ∧ ∀ j, j < l2.length → w.cell? ⟨g', off + j, none⟩ = some (.string (l2.getD j ByteArray.empty)) := by
    by_cases hp : 0 < l2.length
    · exact ⟨g, (hA hp).2, fun _ => (hA hp).1, htx⟩
    · exact ⟨_, Starts.lt hG, fun h => absurd h hp, fun j hj => absurd (Nat.lt_of_le_of_lt (Nat.zero_le _) hj) hp⟩
  by_cases hlong : 30 < l2.length ∨ 60 < a1.size
  · exact OtpTries_long a0 a1 g' off cap A l2 hA' a3 w h0.1 h0.2 h3.1 h3.2 hlong hg' htx' hG
  · by_cases hall : ∀ x ∈ l2, x.size ≤ 60
    · exact OtpTries_core a0 a1 g' off cap A l2 hA' a3 w h0.1 h0.2 h3.1 h3.2 (by omega) (by omega) hall hg' htx' hG
    · exact OtpTries_bad a0 a1 g' off cap A l2 hA' a3 w h0.1 h0.2 h3.1 h3.2 (by omega) (by omega) hall hg' htx' hG
end Go.Proofs.YtlmbijhkpgolaaaDoor
