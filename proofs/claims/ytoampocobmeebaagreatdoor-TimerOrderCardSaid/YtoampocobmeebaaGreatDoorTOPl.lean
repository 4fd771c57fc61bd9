/- What TimerOrder asks, in plain words; ids as a map's keys. -/
import Derived.Test.YtoampocobmeebaaGreatDoorTMPl
import Derived.Test.YtoampocobmeebaaGreatDoorTCome
import Derived.Test.YtoampocobmeebaaGreatDoorTSto
import Derived.Maps.OwnSet
import Derived.Maps.Views
import Derived.Maps.OwnOps
import Derived.WideKeyArr
namespace Go.Proofs.YtoampocobmeebaaGreatDoor.Tm
open Go.RowKit Go.Maps Go.WideMaps
set_option linter.unusedVariables false
set_option linter.unusedSimpArgs false

theorem uid_arr : ArrKey Tryz.prog 25 5 16 := ⟨Tryz.underlying25, by kernel_rfl, by kernel_rfl, by kernel_rfl⟩
theorem uid_keyed : Keyed Tryz.prog 25 := Keyed.of_law uid_arr.law
theorem u8wf (c : UInt8) : (Lit.int .u8 (c.toNat : Int)).wf = true := by
  have := c.toNat_lt
  simp [Lit.wf, IntKind.min, IntKind.max, IntKind.signed, IntKind.bits]
  omega
theorem mapM_someT {α : Type} {f : Nat → Option α} : ∀ (L : List Nat), (∀ i ∈ L, ∃ y, f i = some y) → ∃ ys, L.mapM f = some ys
  | [], _ => ⟨[], rfl⟩
  | i :: L, h => by
    obtain ⟨y, hy⟩ := h i (by simp)
    obtain ⟨ys, hys⟩ := mapM_someT L fun j hj => h j (by simp [hj])
    exact ⟨y :: ys, by rw [List.mapM_cons, hy, hys]; rfl⟩
theorem types_size : ∃ m, Tryz.prog.types.size = m + 1 := ⟨Tryz.prog.types.size - 1, by have : 0 < Tryz.prog.types.size := of_decide_eq_true (by kernel_rfl); omega⟩
theorem key_uid (u : List UInt8) (hu : u.length = 16) : ∃ l, keyOf Tryz.prog 25 (.agg (u.map bv).toArray) = some l := by
  obtain ⟨m, hm⟩ := types_size
  have h8 := Tryz.underlying5
  have hk := uid_arr.keyType ⟨m, hm⟩
  have hL : ∃ ys, (List.range 16).mapM (fun i => Tryz.prog.keyLits (m + 1) 5 (((u.map bv).drop (i * 1)).take 1)) = some ys := by
    refine mapM_someT _ fun i hi => ?_
    have hi' : i < (u.map bv).length := by rw [List.length_map, hu]; exact List.mem_range.1 hi
    have e : ((u.map bv).drop (i * 1)).take 1 = [bv (u[i]'(by simpa using hi'))] := by
      rw [Nat.mul_one, List.drop_eq_getElem_cons hi', List.take_succ_cons, List.take_zero, List.getElem_map]
    refine ⟨[.int .u8 ((u[i]'(by simpa using hi')).toNat : Int)], ?_⟩
    rw [e]
    unfold bv Program.keyLits
    rw [h8]
    simp [u8wf]
  obtain ⟨ys, hys⟩ := hL
  have hlits : Tryz.prog.keyLits (Tryz.prog.types.size + 1) 25 (u.map bv) = some ys.flatten := by
    rw [hm, Program.keyLits.eq_def]
    simp only [uid_arr.hu, uid_arr.size, uid_arr.one]
    rw [if_pos (by rw [List.length_map, hu]), hys]
    rfl
  unfold keyOf
  rw [uid_arr.hu]
  simp only [hk, Value.formed, uid_arr.hu, uid_arr.size, List.size_toArray, List.length_map, hu, Value.cells, hlits, Option.map_some, BEq.rfl, Bool.and_self, if_true]
  exact ⟨_, rfl⟩
/-- A reading of ids as keys. -/
structure KL (kl : List UInt8 → Lit) : Prop where
  is : ∀ u : List UInt8, u.length = 16 → keyOf Tryz.prog 25 (.agg (u.map bv).toArray) = some (kl u)
theorem kl_ex : ∃ kl, KL kl := ⟨fun u => if h : u.length = 16 then Classical.choose (key_uid u h) else .nil, ⟨fun u hu => by
  rw [dif_pos hu]
  exact Classical.choose_spec (key_uid u hu)⟩⟩
section
variable {kl : List UInt8 → Lit} (K : KL kl)
include K
theorem KL.key {u : List UInt8} (hu : u.length = 16) : WideAt.IsKeyLit (kl u) := uid_keyed.key (K.is u hu)
theorem KL.inj {u v : List UInt8} (hu : u.length = 16) (hv : v.length = 16) (h : kl u = kl v) : u = v := by
  have h1 := K.is u hu
  rw [h] at h1
  have h2 := uid_keyed.inj h1 (K.is v hv)
  clear h1 h
  have h3 : u.map bv = v.map bv := by
    have h4 : ∀ {a b : Array Value}, Value.agg a = .agg b → a = b := fun h => by cases h; rfl
    simpa using h4 h2
  have hb : ∀ a b : UInt8, bv a = bv b → a = b := fun a b e => by
    unfold bv at e
    injection e with _ e
    exact UInt8.toNat_inj.1 (by omega)
  refine List.ext_getElem (by omega) fun i h1 h2 => hb _ _ ?_
  have h4 : (u.map bv)[i]? = (v.map bv)[i]? := by rw [h3]
  rw [List.getElem?_map, List.getElem?_map, List.getElem?_eq_getElem h1, List.getElem?_eq_getElem h2] at h4
  simpa using h4
end
theorem atQ_mem {l : List EN} (h : GoodQ l) {x : EN} (hx : x ∈ l) : atQ l x.uid = (x.tm, true) := by
  unfold atQ
  cases hf : l.find? (fun y => decide (y.uid = x.uid)) with
  | none =>
    rw [List.find?_eq_none] at hf
    exact absurd (by simp) (hf x hx)
  | some y =>
    have h1 := List.find?_some hf
    have h2 := List.mem_of_find?_eq_some hf
    rw [h.uniq h2 hx (by simpa using h1)]
theorem atQ_not {l : List EN} {u : List UInt8} (h : ∀ x ∈ l, x.uid ≠ u) : atQ l u = (0, false) := by
  unfold atQ
  have : l.find? (fun y => decide (y.uid = u)) = none := by
    rw [List.find?_eq_none]
    intro x hx
    simpa using h x hx
  rw [this]
theorem atQ_has {l : List EN} (h : GoodQ l) (u : List UInt8) : (atQ l u).2 = true ↔ ∃ x ∈ l, x.uid = u := by
  by_cases hh : ∃ x ∈ l, x.uid = u
  · obtain ⟨x, hx, rfl⟩ := hh
    rw [atQ_mem h hx]
    exact ⟨fun _ => ⟨x, hx, rfl⟩, fun _ => rfl⟩
  · rw [atQ_not fun x hx e => hh ⟨x, hx, e⟩]
    exact ⟨fun h => (by cases h), fun h => absurd h hh⟩
theorem atQ_other {l : List EN} (h : GoodQ l) (e : EN) {u : List UInt8} (hu : u ≠ e.uid) : atQ (setQ l e) u = atQ l u := by
  by_cases hh : ∃ x ∈ l, x.uid = u
  · obtain ⟨x, hx, rfl⟩ := hh
    rw [atQ_mem h hx, atQ_mem (h.set e) (setQ_mem.2 (.inr ⟨hx, hu⟩))]
  · rw [atQ_not fun x hx e => hh ⟨x, hx, e⟩, atQ_not fun x hx e2 => ?_]
    rcases setQ_mem.1 hx with rfl | ⟨h1, _⟩
    · exact hu e2.symm
    · exact hh ⟨x, h1, e2⟩
theorem setQ_length {l : List EN} (h : GoodQ l) (e : EN) : (setQ l e).length = if (atQ l e.uid).2 then l.length else l.length + 1 := by
  unfold setQ
  rw [insE_len]
  cases hp : plcQ l e.uid with
  | none =>
    rw [dropQ_none hp, atQ_not (plcQ_none.1 hp)]
    rfl
  | some i =>
    obtain ⟨hi, h1, _⟩ := plcQ_some hp
    rw [dropQ_some h hp, delL_len l i hi, ← h1, atQ_mem h (List.getElem_mem hi)]
    simp only [if_true]
    omega
/-- The map holds what the queue does. -/
structure MapIs (kl : List UInt8 → Lit) (D : DataW Unit) (m : List EN) : Prop where
  tidy : Tidy D
  size : Maps.size D = m.length
  at' : ∀ u : List UInt8, u.length = 16 → D.atKey (kl u) (.lit (.int .u64 0)) = .lit (.int .u64 (atQ m u).1)
  has' : ∀ u : List UInt8, u.length = 16 → Maps.has D (kl u) = (atQ m u).2
theorem has_empty (k : Lit) : Maps.has (.map [] : DataW Unit) k = false := by rw [has_eq]; rfl
theorem MapIs.nil (kl : List UInt8 → Lit) : MapIs kl (.map []) [] := by
  have ha : ∀ u : List UInt8, atQ [] u = (0, false) := fun u => atQ_not (l := []) (u := u) (by simp)
  have hz : ∀ k : Lit, (DataW.map [] : DataW Unit).atKey k (.lit (.int .u64 0)) = .lit (.int .u64 0) := fun k => atKey_of_not_has (has_empty k) _
  constructor
  · exact tidy_empty
  · rfl
  · intro u hu
    rw [ha u, hz (kl u)]
    simp
  · intro u hu
    rw [ha u, has_empty (kl u)]
theorem MapIs.put {kl : List UInt8 → Lit} (K : KL kl) {D : DataW Unit} {m : List EN} (h : MapIs kl D m) (hG : GoodQ m) (e : EN) : MapIs kl (D.put (kl e.uid) (.lit (.int .u64 e.tm))) (setQ m e) := by
  have hk := K.key e.huid
  have hae : atQ (setQ m e) e.uid = (e.tm, true) := atQ_set m e
  refine ⟨h.tidy.put hk _, ?_, fun u hu => ?_, fun u hu => ?_⟩
  · rw [size_put h.tidy, setQ_length hG, h.has' _ e.huid, h.size]
  · by_cases he : u = e.uid
    · subst he
      rw [atKey_put_same h.tidy.isMap hk, hae]
    · rw [atKey_put_other fun hh => he (K.inj hu e.huid hh), h.at' u hu, atQ_other hG e he]
  · by_cases he : u = e.uid
    · subst he
      rw [has_put_same h.tidy.isMap hk, hae]
    · rw [has_put_other fun hh => he (K.inj hu e.huid hh), h.has' u hu, atQ_other hG e he]

/-- The queue of acts. -/
def EN.of (a : AN) (h : a.wf) : EN := ⟨a.tm, a.uid, h.2, h.1⟩
def enOf (a : AN) : EN := if h : a.uid.length = 16 ∧ a.tm < 18446744073709551616 then EN.of a h else ⟨0, List.replicate 16 0, by decide, by decide⟩
theorem enOf_wf {a : AN} (h : a.wf) : enOf a = EN.of a h := dif_pos (c := a.uid.length = 16 ∧ a.tm < 18446744073709551616) h
/-- What the first k acts leave. -/
def setsF (L : List AN) (k : Nat) : List EN := (L.take k).foldl (fun q a => setQ q (enOf a)) []
theorem setsF_zero (L : List AN) : setsF L 0 = [] := rfl
theorem setsF_succ (L : List AN) (k : Nat) (hk : k < L.length) : setsF L (k + 1) = setQ (setsF L k) (enOf L[k]) := by
  unfold setsF
  rw [List.take_succ_eq_append_getElem hk, List.foldl_append]
  rfl
/-- What stands of the second queue. -/
def Again (L : List AN) (m : List EN) (by1 i : Nat) (q : List EN) : Prop :=
  GoodQ q ∧ q.length ≤ i ∧ ∀ x, x ∈ q ↔ (∃ j, j < i ∧ ∃ h : (j + by1) % L.length < L.length, x.uid = (L[(j + by1) % L.length]'h).uid) ∧ x.tm = (atQ m x.uid).1
theorem Again.nil (L : List AN) (m : List EN) (by1 : Nat) : Again L m by1 0 [] := ⟨.nil, Nat.le_refl _, fun x => ⟨fun h => (by cases h), fun ⟨⟨j, hj, _⟩, _⟩ => by omega⟩⟩
theorem Again.step {L : List AN} {m : List EN} {by1 i : Nat} {q : List EN} (h : Again L m by1 i q) (hk : (i + by1) % L.length < L.length) {e : EN} (hu : e.uid = (L[(i + by1) % L.length]'hk).uid) (ht : e.tm = (atQ m e.uid).1) : Again L m by1 (i + 1) (setQ q e) := by
  refine ⟨h.1.set e, Nat.le_trans (setQ_len q e) (by have := h.2.1; omega), fun x => ?_⟩
  rw [setQ_mem, h.2.2 x]
  constructor
  · rintro (rfl | ⟨⟨⟨j, hj, hjl, hx⟩, hx2⟩, _⟩)
    · exact ⟨⟨i, by omega, hk, hu⟩, ht⟩
    · exact ⟨⟨j, by omega, hjl, hx⟩, hx2⟩
  · rintro ⟨⟨j, hj, hjl, hx⟩, hx2⟩
    by_cases hxe : x.uid = e.uid
    · exact .inl (EN.ext' (by rw [hx2, ht, hxe]) hxe)
    · refine .inr ⟨⟨⟨j, ?_, hjl, hx⟩, hx2⟩, hxe⟩
      rcases Nat.lt_or_ge j i with h1 | h1
      · exact h1
      · obtain rfl : j = i := by omega
        exact absurd (hx.trans hu.symm) hxe
/-- The first queue: each act's id is there, and none else. -/
def First (L : List AN) (i : Nat) (m : List EN) : Prop := GoodQ m ∧ m.length ≤ i ∧ ∀ u, (∃ x ∈ m, x.uid = u) ↔ ∃ j, j < i ∧ ∃ h : j < L.length, u = (L[j]'h).uid
theorem First.nil (L : List AN) : First L 0 [] := ⟨.nil, Nat.le_refl _, fun u => ⟨fun ⟨x, hx, _⟩ => (by cases hx), fun ⟨j, hj, _⟩ => by omega⟩⟩
theorem First.step {L : List AN} {i : Nat} {m : List EN} (h : First L i m) (hi : i < L.length) {e : EN} (hu : e.uid = (L[i]'hi).uid) : First L (i + 1) (setQ m e) := by
  refine ⟨h.1.set e, Nat.le_trans (setQ_len m e) (by have := h.2.1; omega), fun u => ?_⟩
  constructor
  · rintro ⟨x, hx, rfl⟩
    rcases setQ_mem.1 hx with rfl | ⟨h1, _⟩
    · exact ⟨i, by omega, hi, hu⟩
    · obtain ⟨j, hj, hjl, h2⟩ := (h.2.2 x.uid).1 ⟨x, h1, rfl⟩
      exact ⟨j, by omega, hjl, h2⟩
  · rintro ⟨j, hj, hjl, rfl⟩
    by_cases he : (L[j]'hjl).uid = e.uid
    · exact ⟨e, setQ_self m e, he.symm⟩
    · obtain ⟨x, hx, h1⟩ := (h.2.2 (L[j]'hjl).uid).2 ⟨j, by
        rcases Nat.lt_or_ge j i with h1 | h1
        · exact h1
        · obtain rfl : j = i := by omega
          exact absurd hu.symm he, hjl, rfl⟩
      exact ⟨x, setQ_mem.2 (.inr ⟨hx, by rw [h1]; exact he⟩), h1⟩
theorem first_sets {L : List AN} (hwf : ∀ r ∈ L, r.wf) : ∀ k, k ≤ L.length → First L k (setsF L k)
  | 0, _ => First.nil L
  | k + 1, hk => by
    rw [setsF_succ L k (by omega)]
    refine (first_sets hwf k (by omega)).step (by omega) ?_
    rw [enOf_wf (hwf _ (List.getElem_mem _))]
    rfl
theorem again_first {L : List AN} {m q : List EN} {by1 : Nat} (hm : First L L.length m) (hq : Again L m by1 L.length q) : m = q := by
  refine good_eq hm.1.ord hq.1.ord fun x => ?_
  rw [hq.2.2 x]
  constructor
  · intro hx
    refine ⟨?_, by rw [atQ_mem hm.1 hx]⟩
    obtain ⟨k, hk, hkl, hu⟩ := (hm.2.2 x.uid).1 ⟨x, hx, rfl⟩
    refine ⟨(k + (L.length - by1 % L.length)) % L.length, Nat.mod_lt _ (by omega), ?_⟩
    have e : ((k + (L.length - by1 % L.length)) % L.length + by1) % L.length = k := by
      have h1 := Nat.mod_lt by1 (show 0 < L.length by omega)
      rw [Nat.mod_add_mod]
      have h2 : k + (L.length - by1 % L.length) + by1 = k + L.length * (by1 / L.length + 1) := by
        have h3 := Nat.div_add_mod by1 L.length
        rw [Nat.mul_add]
        omega
      rw [h2, Nat.add_mul_mod_self_left, Nat.mod_eq_of_lt hkl]
    simp only [e]
    exact ⟨hkl, hu⟩
  · rintro ⟨⟨j, hj, hjl, hu⟩, ht⟩
    obtain ⟨y, hy, h1⟩ := (hm.2.2 x.uid).2 ⟨_, hjl, hjl, hu⟩
    have : x = y := EN.ext' (by rw [ht, ← h1, atQ_mem hm.1 hy]) h1.symm
    rw [this]
    exact hy
end Go.Proofs.YtoampocobmeebaaGreatDoor.Tm
