/- Plain facts on digits and their weights: nothing of the program stands here. -/
import Derived.WalkKit
namespace Go.Proofs.YtheidjnapoipaaaGreatDoor
open Go.RowKit

/-- A digit's value. -/
def dv (c : UInt8) : Nat := c.toNat - 48
def dbl (d : Nat) : Nat := if 4 < d then 2 * d - 9 else 2 * d
def wgt (b : Nat) (c : UInt8) : Nat := if b % 2 = 1 then dbl (dv c) else dv c
/-- The weights, from the last digit on. -/
def wl (b : Nat) : List UInt8 → List Nat
  | [] => []
  | c :: r => wgt b c :: wl (b + 1) r
/-- Their sum. -/
def ws (b : Nat) : List UInt8 → Nat
  | [] => 0
  | c :: r => wgt b c + ws (b + 1) r

def isDig (c : UInt8) : Bool := decide (48 ≤ c.toNat) && decide (c.toNat ≤ 57)
def isD (s : ByteArray) : Bool := decide (0 < s.size) && s.data.toList.all isDig

theorem isDig_iff (c : UInt8) : isDig c = true ↔ 48 ≤ c.toNat ∧ c.toNat ≤ 57 := by simp [isDig]
theorem isD_iff (s : ByteArray) : isD s = true ↔ 0 < s.size ∧ ∀ c ∈ s.data.toList, isDig c = true := by
  unfold isD
  rw [Bool.and_eq_true, decide_eq_true_eq, List.all_eq_true]

theorem dv_le {c : UInt8} (h : isDig c = true) : dv c ≤ 9 := by have := (isDig_iff c).1 h; unfold dv; omega
theorem dbl_le {d : Nat} (h : d ≤ 9) : dbl d ≤ 9 := by unfold dbl; split <;> omega
theorem wgt_le {c : UInt8} (b : Nat) (h : isDig c = true) : wgt b c ≤ 9 := by
  have := dv_le h
  unfold wgt
  split
  · exact dbl_le this
  · exact this

theorem wl_append (X : List UInt8) : ∀ b Y, wl b (X ++ Y) = wl b X ++ wl (b + X.length) Y := by
  induction X with
  | nil => intro b Y; rfl
  | cons c X ih =>
    intro b Y
    show wgt b c :: wl (b + 1) (X ++ Y) = wgt b c :: (wl (b + 1) X ++ _)
    rw [ih, List.length_cons]
    congr 3
    omega
theorem ws_append (X : List UInt8) : ∀ b Y, ws b (X ++ Y) = ws b X + ws (b + X.length) Y := by
  induction X with
  | nil => intro b Y; simp [ws]
  | cons c X ih =>
    intro b Y
    show wgt b c + ws (b + 1) (X ++ Y) = wgt b c + ws (b + 1) X + _
    rw [ih, List.length_cons, show b + 1 + X.length = b + (X.length + 1) by omega]
    omega
theorem wl_sum (X : List UInt8) : ∀ b, (wl b X).sum = ws b X := by
  induction X with
  | nil => intro b; rfl
  | cons c X ih => intro b; simp [wl, ws, ih]
theorem wl_length (X : List UInt8) : ∀ b, (wl b X).length = X.length := by
  induction X with
  | nil => intro b; rfl
  | cons c X ih => intro b; simp [wl, ih]
theorem ws_par (X : List UInt8) : ∀ b, ws (b + 2) X = ws b X := by
  induction X with
  | nil => intro b; rfl
  | cons c X ih =>
    intro b
    show wgt (b + 2) c + ws (b + 1 + 2) X = _
    rw [ih]
    have : wgt (b + 2) c = wgt b c := by unfold wgt; rw [Nat.add_mod_right]
    rw [this]
    rfl
theorem ws_le (X : List UInt8) : ∀ b, (∀ c ∈ X, isDig c = true) → ws b X ≤ 9 * X.length := by
  induction X with
  | nil => intro b _; exact Nat.le_refl _
  | cons c X ih =>
    intro b h
    have h1 := wgt_le b (h c List.mem_cons_self)
    have h2 := ih (b + 1) (fun d hd => h d (List.mem_cons_of_mem _ hd))
    show wgt b c + ws (b + 1) X ≤ 9 * (X.length + 1)
    omega

/-- A text's digits, the last first. -/
def rv (s : ByteArray) : List UInt8 := s.data.toList.reverse
theorem rv_length (s : ByteArray) : (rv s).length = s.size := by simp [rv]
theorem rv_get (s : ByteArray) (i : Nat) (h : i < s.size) : (rv s).getD i 0 = s.data.toList.getD (s.size - 1 - i) 0 := by
  have hl : s.data.toList.length = s.size := by simp
  unfold rv
  rw [List.getD_eq_getElem?_getD, List.getD_eq_getElem?_getD, List.getElem?_reverse (by omega), hl]
theorem rv_drop (s : ByteArray) (i : Nat) (h : i < s.size) : (rv s).drop i = (rv s).getD i 0 :: (rv s).drop (i + 1) := by
  have hl := rv_length s
  rw [List.drop_eq_getElem_cons (by omega), List.getD_eq_getElem?_getD, List.getElem?_eq_getElem (by omega)]
  rfl
theorem rv_dig {s : ByteArray} (h : isD s = true) (i : Nat) (hi : i < s.size) : isDig ((rv s).getD i 0) = true := by
  have hl := rv_length s
  refine ((isD_iff s).1 h).2 _ ?_
  rw [List.getD_eq_getElem?_getD, List.getElem?_eq_getElem (by omega)]
  have h2 : (rv s)[i]'(by omega) ∈ rv s := List.getElem_mem _
  exact List.mem_reverse.1 h2
/-- The sum of a text's weights. -/
def wsB (b : Nat) (s : ByteArray) : Nat := ws b (rv s)
def luhnB (s : ByteArray) : Bool := isD s && decide (wsB 0 s % 10 = 0)
def checkN (s : ByteArray) : Nat := 48 + (10 - wsB 1 s % 10) % 10

theorem wsB_snoc (s : ByteArray) (c : UInt8) : wsB 0 (s ++ ⟨#[c]⟩) = dv c + wsB 1 s := by
  unfold wsB rv
  rw [ByteArray.data_append, Array.toList_append, List.reverse_append]
  show wgt 0 c + ws 1 _ = _
  rfl
theorem luhn_check {s : ByteArray} (h : isD s = true) : luhnB (s ++ ⟨#[UInt8.ofNat (checkN s)]⟩) = true := by
  have hc : checkN s < 58 ∧ 48 ≤ checkN s := by unfold checkN; omega
  have hn : (UInt8.ofNat (checkN s)).toNat = checkN s := by simp; omega
  have hd : isDig (UInt8.ofNat (checkN s)) = true := (isDig_iff _).2 (by omega)
  obtain ⟨h1, h2⟩ := (isD_iff s).1 h
  unfold luhnB
  rw [Bool.and_eq_true, decide_eq_true_eq, wsB_snoc]
  refine ⟨(isD_iff _).2 ⟨by rw [ByteArray.size_append]; omega, fun c hc => ?_⟩, ?_⟩
  · rw [ByteArray.data_append, Array.toList_append] at hc
    rcases List.mem_append.1 hc with h | h
    · exact h2 c h
    · have : c = UInt8.ofNat (checkN s) := by simpa using h
      rw [this]; exact hd
  · unfold dv
    rw [hn]
    unfold checkN
    omega

theorem dbl_inj : ∀ a b, a ≤ 9 → b ≤ 9 → dbl a % 10 = dbl b % 10 → a = b := by
  intro a b ha hb h
  unfold dbl at h
  split at h <;> split at h <;> omega

/-- One digit turned: the weights' sum is a multiple of ten just if it is the same digit. -/
theorem turned (l : List UInt8) (p : Nat) (c : UInt8) (hp : p < l.length) (hl : ∀ d ∈ l, isDig d = true) (hc : isDig c = true) (h0 : ws 0 l.reverse % 10 = 0) :
    (ws 0 (l.set p c).reverse % 10 = 0) ↔ c = l.getD p 0 := by
  have e1 : l = l.take p ++ l.getD p 0 :: l.drop (p + 1) := by
    rw [List.getD_eq_getElem?_getD, List.getElem?_eq_getElem hp]
    simp
  have e2 : l.set p c = l.take p ++ c :: l.drop (p + 1) := List.set_eq_take_append_cons_drop.trans (by rw [if_pos hp])
  have hd : isDig (l.getD p 0) = true := hl _ (by rw [List.getD_eq_getElem?_getD, List.getElem?_eq_getElem hp]; exact List.getElem_mem _)
  rw [e2]
  rw [e1] at h0
  generalize l.getD p 0 = d at h0 hd ⊢
  generalize l.take p = A at h0 ⊢
  generalize l.drop (p + 1) = B at h0 ⊢
  simp only [List.reverse_append, List.reverse_cons, List.append_assoc] at h0 ⊢
  rw [ws_append] at h0 ⊢
  simp only [List.singleton_append, ws] at h0 ⊢
  have hw : wgt (0 + B.reverse.length) c % 10 = wgt (0 + B.reverse.length) d % 10 → c = d := by
    intro h
    have h1 := (isDig_iff c).1 hc
    have h2 := (isDig_iff d).1 hd
    have h3 := dv_le hc
    have h4 := dv_le hd
    have h5 : dv c = dv d := by
      unfold wgt at h
      split at h
      · exact dbl_inj _ _ h3 h4 h
      · omega
    unfold dv at h5
    exact UInt8.toNat_inj.1 (by omega)
  constructor
  · intro h
    apply hw
    omega
  · intro h
    subst h
    exact h0
end Go.Proofs.YtheidjnapoipaaaGreatDoor
