/- Plain facts on valid texts: joined, cut. -/
import Derived.Test.YthnanmaeehobdaaUPlain
namespace Go.Proofs.Ythnanmaeehobdaa

/-- Writings, one behind the other. -/
def flat (cs : List Nat) : List UInt8 := cs.flatMap enc
/-- Code points with their places. -/
def placed : Nat → List Nat → List (Nat × Nat)
  | _, [] => []
  | p, c :: cs => (p, c) :: placed (p + encLen c) cs

theorem flat_nil : flat [] = [] := rfl
theorem flat_cons (c : Nat) (cs : List Nat) : flat (c :: cs) = enc c ++ flat cs := by simp [flat]
theorem flat_append (a b : List Nat) : flat (a ++ b) = flat a ++ flat b := by simp [flat]
theorem placed_length (cs : List Nat) : ∀ p, (placed p cs).length = cs.length := by
  induction cs with
  | nil => intro p; rfl
  | cons c cs ih => intro p; simp [placed, ih]
theorem placed_end (cs : List Nat) : ∀ p, endOf p (placed p cs) = p + (flat cs).length := by
  induction cs with
  | nil => intro p; rfl
  | cons c cs ih =>
    intro p
    show endOf (p + encLen c) (placed (p + encLen c) cs) = _
    rw [ih, flat_cons, List.length_append, enc_length]
    omega
theorem placed_mem (cs : List Nat) : ∀ p x, x ∈ placed p cs → ∃ a c b, cs = a ++ c :: b ∧ x = (p + (flat a).length, c) := by
  induction cs with
  | nil => intro p x h; cases h
  | cons c cs ih =>
    intro p x h
    rcases List.mem_cons.1 h with rfl | h
    · exact ⟨[], c, cs, rfl, rfl⟩
    · obtain ⟨a, d, b, rfl, rfl⟩ := ih _ x h
      refine ⟨c :: a, d, b, rfl, ?_⟩
      rw [flat_cons, List.length_append, enc_length, Nat.add_assoc]

theorem runes_of (cs : List Nat) : ∀ (a b : List UInt8), (∀ c ∈ cs, Utf8.valid (c : Nat) = true) →
    runesAt (a ++ flat cs ++ b) a.length = placed a.length cs ++ runesAt (a ++ flat cs ++ b) (a.length + (flat cs).length) := by
  induction cs with
  | nil => intro a b _; simp [flat_nil, placed]
  | cons c cs ih =>
    intro a b hv
    have hd : dec ((a ++ flat (c :: cs) ++ b).drop a.length) = some (c, encLen c) := by
      rw [flat_cons, List.append_assoc, List.append_assoc, List.drop_left]
      exact dec_enc c _ (hv c List.mem_cons_self)
    rw [runesAt_some hd]
    have h2 := ih (a ++ enc c) b (fun d hd => hv d (List.mem_cons_of_mem _ hd))
    rw [List.length_append, enc_length] at h2
    rw [flat_cons, ← List.append_assoc a, h2, List.length_append, enc_length]
    show _ :: _ = _ :: _ ++ _
    rw [Nat.add_assoc]
    rfl

theorem flat_of (l : List UInt8) : ∀ k p, l.length - p ≤ k → p ≤ l.length → ∃ cs, (∀ c ∈ cs, Utf8.valid (c : Nat) = true) ∧ runesAt l p = placed p cs ∧ l.drop p = flat cs ++ l.drop (endOf p (runesAt l p)) := by
  intro k
  induction k with
  | zero =>
    intro p hk hp
    rw [runesAt_end (by omega)]
    exact ⟨[], fun c h => (by cases h), rfl, rfl⟩
  | succ k ih =>
    intro p hk hp
    cases hd : dec (l.drop p) with
    | none =>
      rw [runesAt_none hd]
      exact ⟨[], fun c h => (by cases h), rfl, rfl⟩
    | some x =>
      obtain ⟨c, n⟩ := x
      have hl := dec_len hd
      rw [List.length_drop] at hl
      obtain ⟨hv, rfl, he⟩ := dec_some hd
      obtain ⟨cs, h1, h2, h3⟩ := ih (p + encLen c) (by omega) (by omega)
      refine ⟨c :: cs, fun d h => ?_, ?_, ?_⟩
      · rcases List.mem_cons.1 h with rfl | h
        · exact hv
        · exact h1 d h
      · rw [runesAt_some hd, h2]; rfl
      · rw [runesAt_some hd, endOf_cons]
        dsimp only
        rw [flat_cons, List.append_assoc, ← h3, he, List.drop_drop]

theorem whole_flat {s : ByteArray} (h : whole s = true) : ∃ cs, (∀ c ∈ cs, Utf8.valid (c : Nat) = true) ∧ runesB s = placed 0 cs ∧ s.data.toList = flat cs := by
  obtain ⟨cs, h1, h2, h3⟩ := flat_of s.data.toList _ 0 (Nat.le_refl _) (Nat.zero_le _)
  refine ⟨cs, h1, h2, ?_⟩
  have hg : endOf 0 (runesAt s.data.toList 0) = s.data.toList.length := by
    have hw : goodEnd s = s.size := by simpa [whole] using h
    have hl : s.data.toList.length = s.size := by simp
    rw [hl]
    exact hw
  rw [hg, List.drop_length, List.append_nil, List.drop_zero] at h3
  exact h3
theorem flat_whole {s : ByteArray} {cs : List Nat} (hv : ∀ c ∈ cs, Utf8.valid (c : Nat) = true) (h : s.data.toList = flat cs) : whole s = true ∧ runesB s = placed 0 cs := by
  have h1 := runes_of cs [] [] hv
  rw [List.nil_append, List.append_nil, List.length_nil, Nat.zero_add] at h1
  rw [runesAt_end (l := flat cs) (Nat.le_refl _), List.append_nil] at h1
  have h2 : runesB s = placed 0 cs := by unfold runesB; rw [h]; exact h1
  refine ⟨?_, h2⟩
  unfold whole goodEnd
  rw [h2, placed_end, decide_eq_true_eq, ← h]
  simp

theorem whole_append {s t : ByteArray} (hs : whole s = true) (ht : whole t = true) : whole (s ++ t) = true ∧ (runesB (s ++ t)).length = (runesB s).length + (runesB t).length := by
  obtain ⟨cs, c1, c2, c3⟩ := whole_flat hs
  obtain ⟨ds, d1, d2, d3⟩ := whole_flat ht
  have h := flat_whole (s := s ++ t) (cs := cs ++ ds) (fun c h => (List.mem_append.1 h).elim (c1 c) (d1 c)) (by rw [ByteArray.data_append, Array.toList_append, c3, d3, flat_append])
  refine ⟨h.1, ?_⟩
  rw [h.2, c2, d2, placed_length, placed_length, placed_length, List.length_append]

theorem whole_cut {s : ByteArray} {x : Nat × Nat} (hs : whole s = true) (hx : x ∈ runesB s) :
    Utf8.valid (x.2 : Nat) = true ∧ x.1 + encLen x.2 ≤ s.size ∧ whole (s.extract 0 x.1) = true ∧ whole (s.extract x.1 s.size) = true ∧ (s.extract x.1 (x.1 + encLen x.2)).data.toList = enc x.2 := by
  obtain ⟨cs, c1, c2, c3⟩ := whole_flat hs
  rw [c2] at hx
  obtain ⟨a, c, b, rfl, rfl⟩ := placed_mem cs 0 x hx
  rw [Nat.zero_add]
  have hl : s.data.toList.length = s.size := by simp
  have hsz : s.size = (flat a).length + (encLen c + (flat b).length) := by
    rw [← hl, c3, flat_append, flat_cons, List.length_append, List.length_append, enc_length]
  refine ⟨c1 c (by simp), by dsimp only; omega, ?_, ?_, ?_⟩
  · refine (flat_whole (cs := a) (fun d h => c1 d (by simp [h])) ?_).1
    rw [ByteArray.data_extract, Array.toList_extract, List.extract_eq_take_drop, List.drop_zero, Nat.sub_zero, c3, flat_append, List.take_left]
  · refine (flat_whole (cs := c :: b) (fun d h => c1 d (by rw [List.mem_append]; exact .inr h)) ?_).1
    rw [ByteArray.data_extract, Array.toList_extract, List.extract_eq_take_drop, c3, flat_append, List.drop_left, List.take_of_length_le]
    rw [flat_cons, List.length_append, enc_length]
    dsimp only
    omega
  · rw [ByteArray.data_extract, Array.toList_extract, List.extract_eq_take_drop, c3, flat_append, List.drop_left, Nat.add_sub_cancel_left, flat_cons, List.take_append_of_le_length (by rw [enc_length]; exact Nat.le_refl _), List.take_of_length_le (by rw [enc_length]; exact Nat.le_refl _)]
end Go.Proofs.Ythnanmaeehobdaa
