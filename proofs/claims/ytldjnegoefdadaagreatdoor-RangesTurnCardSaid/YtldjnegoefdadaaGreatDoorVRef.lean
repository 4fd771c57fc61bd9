/- The document's own reading of a version. -/
import Derived.Test.YtldjnegoefdadaaGreatDoorVRefN
import Derived.Test.YtldjnegoefdadaaGreatDoorNText
import Derived.Laws.AppendOwn
import Derived.Deep.AppendLies
import Derived.Laws.OwnMore
namespace Go.Proofs.YtldjnegoefdadaaGreatDoor
open Go.RowKit
set_option linter.unusedVariables false

theorem int_infoV : (Tryz.prog.info? 3).map (fun i => (i.zero, i.size, i.bytes)) = some (some (.int .i64 0), 1, 8) := by kernel_rfl
theorem info_partsV {P : Program} {t : TypeId} {z : Value} {s b : Nat} (h : (P.info? t).map (fun i => (i.zero, i.size, i.bytes)) = some (some z, s, b)) : ∃ i : TypeInfo, P.info? t = some i ∧ i.zero = some z ∧ i.size = s ∧ i.bytes = b := by
  cases hi : P.info? t with
  | none => rw [hi] at h; cases h
  | some i =>
    rw [hi] at h
    simp at h
    exact ⟨i, rfl, h.1, h.2.1, h.2.2⟩
def ivN (n : Nat) : Value := .int .i64 n
/-- The numbers of the pieces, if each is one. -/
def rpo : List (List UInt8) → Option (List Nat)
  | [] => some []
  | p :: r => match numE p, rpo r with
    | some a, some l => some (a :: l)
    | _, _ => none
theorem rpo_fail (t : List UInt8) (r : List (List UInt8)) (h : numE t = none) : ∀ done, rpo (done ++ t :: r) = none := by
  intro done
  induction done with
  | nil => rw [List.nil_append, rpo, h]
  | cons p done ih =>
    rw [List.cons_append, rpo, ih]
    split
    · rename_i e1 e2; cases e2
    · rfl
theorem rpo_all : ∀ (done : List (List UInt8)) (ns : List Nat), done.map numE = ns.map some → rpo done = some ns := by
  intro done
  induction done with
  | nil => intro ns h; cases ns <;> simp at h; rfl
  | cons p done ih =>
    intro ns h
    cases ns with
    | nil => simp at h
    | cons n ns =>
      simp only [List.map_cons, List.cons.injEq] at h
      rw [rpo, h.1, ih ns h.2]
def RefPost (o : Option (List Nat)) (w : World) (e : Ending) (w' : World) : Prop :=
  (o = none ∧ e = .returned (.tuple #[.slice none 0 0, .bool false]) ∧ Below w.heap.size w w') ∨
  (∃ ns v, o = some ns ∧ e = .returned (.tuple #[v, .bool (decide (ns.length = 3))]) ∧ w'.ownsRow w.heap.size 3 1 v ns.length (ns.map ivN) ∧ Below w.heap.size w w')

/-- How far the reading has come. -/
def At (S : List UInt8) (i : Nat) (done : List (List UInt8)) (ns : List Nat) (t : List UInt8) : Prop :=
  done.map numE = ns.map some ∧ ((i ≤ S.length ∧ spl [] S = done ++ spl t (S.drop i) ∧ t.length ≤ i) ∨ (i = S.length + 1 ∧ spl [] S = done)) ∧ ns.length ≤ i
theorem At_char {S : List UInt8} {i : Nat} {done ns t} (h : At S i done ns t) (hi : i < S.length) (c : UInt8) (hc : S[i]? = some c) (hn : c ≠ 46) : At S (i + 1) done ns (t ++ [c]) := by
  obtain ⟨h1, h2, h3⟩ := h
  refine ⟨h1, ?_, by omega⟩
  rcases h2 with ⟨_, h2, h4⟩ | ⟨h2, _⟩
  · left
    have hd : S.drop i = c :: S.drop (i + 1) := by
      rw [List.drop_eq_getElem_cons hi]
      rw [List.getElem?_eq_getElem hi] at hc
      rw [Option.some.inj hc]
    rw [hd, spl_char _ _ _ hn] at h2
    exact ⟨by omega, h2, by simp; omega⟩
  · omega
theorem At_piece {S : List UInt8} {i : Nat} {done ns t} (h : At S i done ns t) (hi : i ≤ S.length) (hd : i < S.length → S[i]? = some 46) {n : Nat} (hn : numE t = some n) : At S (i + 1) (done ++ [t]) (ns ++ [n]) [] := by
  obtain ⟨h1, h2, h3⟩ := h
  refine ⟨by simp [h1, hn], ?_, by simp; omega⟩
  rcases h2 with ⟨_, h2, h4⟩ | ⟨h2, _⟩
  · by_cases hlt : i < S.length
    · left
      have he := hd hlt
      have hdr : S.drop i = 46 :: S.drop (i + 1) := by
        rw [List.drop_eq_getElem_cons hlt]
        rw [List.getElem?_eq_getElem hlt] at he
        rw [Option.some.inj he]
      rw [hdr, spl_dot] at h2
      exact ⟨by omega, by rw [h2]; simp, by simp⟩
    · right
      rw [List.drop_eq_nil_of_le (by omega)] at h2
      exact ⟨by omega, by rw [h2]; rfl⟩
  · omega
theorem At_fail {S : List UInt8} {i : Nat} {done ns t} (h : At S i done ns t) (hi : i ≤ S.length) (hd : i < S.length → S[i]? = some 46) (hn : numE t = none) : rpo (spl [] S) = none := by
  obtain ⟨h1, h2, h3⟩ := h
  rcases h2 with ⟨_, h2, h4⟩ | ⟨h2, _⟩
  · by_cases hlt : i < S.length
    · have he := hd hlt
      have hdr : S.drop i = 46 :: S.drop (i + 1) := by
        rw [List.drop_eq_getElem_cons hlt]
        rw [List.getElem?_eq_getElem hlt] at he
        rw [Option.some.inj he]
      rw [hdr, spl_dot] at h2
      rw [h2]
      exact rpo_fail _ _ hn _
    · rw [List.drop_eq_nil_of_le (by omega)] at h2
      rw [h2]
      exact rpo_fail _ _ hn _
  · omega
theorem At_end {S : List UInt8} {i : Nat} {done ns t} (h : At S i done ns t) (hi : S.length < i) : rpo (spl [] S) = some ns := by
  obtain ⟨h1, h2, h3⟩ := h
  rcases h2 with ⟨_, h2, h4⟩ | ⟨h2, h4⟩
  · omega
  · rw [h4]; exact rpo_all _ _ h1

/-- What the document asks of a piece, one by one. -/
theorem numE_isD (X : ByteArray) (h : isD X = false) : numE X.data.toList = none := by
  unfold numE
  rw [isD_list] at h
  rw [if_neg]
  rintro ⟨h1, h2, _⟩
  rw [h2, decide_eq_true h1] at h
  cases h
theorem refN_isD (X : ByteArray) (h : isD X = true) : refN 0 X.data.toList = if val X.data.toList < 18446744073709551616 then some (val X.data.toList) else none :=
  refN_dig _ 0 ((isD_iff X).1 h).2 (by omega)
theorem numE_great (X : ByteArray) (hd : isD X = true) (h : refN 0 X.data.toList = none) : numE X.data.toList = none := by
  rw [refN_isD X hd] at h
  split at h
  · cases h
  · rename_i hn
    unfold numE
    rw [if_neg]
    rintro ⟨_, _, h3, _⟩
    omega
theorem numE_some65 (X : ByteArray) (hd : isD X = true) {n : Nat} (h : refN 0 X.data.toList = some n) (hn : 65535 < n) : numE X.data.toList = none := by
  rw [refN_isD X hd] at h
  split at h
  · injection h with h
    unfold numE
    rw [if_neg]
    rintro ⟨_, _, h3, _⟩
    omega
  · cases h
theorem numE_dec2 (X : ByteArray) (hd : isD X = true) {n : Nat} (h : refN 0 X.data.toList = some n) (hn : n ≤ 65535) : numE X.data.toList = if (⟨(Lib.decDigits n).toArray⟩ : ByteArray) = X then some n else none := by
  rw [refN_isD X hd] at h
  rw [isD_list, Bool.and_eq_true, decide_eq_true_eq] at hd
  split at h
  · injection h with h
    subst h
    unfold numE
    by_cases he : (⟨(Lib.decDigits (val X.data.toList)).toArray⟩ : ByteArray) = X
    · rw [if_pos he, if_pos ⟨hd.1, hd.2, hn, by conv => rhs; rw [← he]⟩]
    · rw [if_neg he, if_neg]
      rintro ⟨_, _, _, h4⟩
      exact he (ByteArray.ext (Array.ext' h4))
  · cases h

theorem cat_char (s X : ByteArray) (i : Nat) (h : i < s.size) : (X ++ s.extract i (i + 1)).data.toList = X.data.toList ++ [s[i]] := by
  rw [ByteArray.data_append, Array.toList_append, ByteArray.data_extract, Array.toList_extract, List.extract_eq_take_drop, drop_at s i h, show i + 1 - i = 1 by omega]
  rfl
theorem beq_toList (X Y : ByteArray) : (X.toList == Y.toList) = decide (X = Y) := by
  rw [Bool.eq_iff_iff, beq_iff_eq, decide_eq_true_eq, ByteArray.toList_eq, ByteArray.toList_eq]
  exact ⟨fun h => ByteArray.ext (Array.ext' h), fun h => by rw [h]⟩

theorem heap_alloc_newV (w : World) (o : Obj) : (w.alloc o).heap[w.heap.size]? = some o := by simp [World.alloc, -World.alloc_eq]
theorem below_grownV {w w' : World} (h : Below w.heap.size w w') : w.grownBy w' none := ⟨h.os, h.tape, h.output, h.size, fun k hk _ => h.block k hk⟩
theorem refN_lt (l : List UInt8) : ∀ (a : Nat) {n : Nat}, a < 18446744073709551616 → refN a l = some n → n < 18446744073709551616 := by
  induction l with
  | nil => intro a n ha h; rw [refN] at h; injection h with h; omega
  | cons c l ih =>
    intro a n ha h
    have h255 : dw c ≤ 255 := by unfold dw; omega
    rw [refN] at h
    split at h
    · cases h
    · exact ih _ (by omega) h

set_option maxRecDepth 4000 in
set_option maxHeartbeats 4000000 in
theorem refVParse_any (s : ByteArray) (w : World) (hs : s.size ≤ 1000) :
    Calls Tryz.prog 69 #[.string s] w (RefPost (rpo (spl [] s.data.toList)) w) := by
  have hsl : s.data.toList.length = s.size := by simp
  obtain ⟨i0, hi, hz0, hz1, hz2⟩ := info_partsV int_infoV
  obtain ⟨R, hR⟩ : ∃ R, rpo (spl [] s.data.toList) = R := ⟨_, rfl⟩
  have HEND : Hid (∀ i done ns t, At s.data.toList i done ns t → s.size < i → R = some ns) := Lib.hid fun i done ns t h hi => by rw [← hR]; exact At_end h (by omega)
  have HFAIL : Hid (∀ i done ns t, At s.data.toList i done ns t → i ≤ s.size → (i < s.size → s.data.toList[i]? = some 46) → numE t = none → R = none) := Lib.hid fun i done ns t h h1 h2 h3 => by
    rw [← hR]; exact At_fail h (by omega) (fun h => h2 (by omega)) h3
  rw [hR]
  have HS := Lib.hid hsl
  clear hsl hR
  go_enter Tryz.func69, Tryz.ntmps69
  go_wp2
  go_loopw [4, 5, 6] (fun l t i wr => ∃ (k : Nat) (X : ByteArray) (done : List (List UInt8)) (ns : List Nat), k ≤ s.size + 1 ∧ i = .int .i64 k ∧ t = .string X ∧ X.size ≤ k ∧ ns.length ≤ k ∧ Hid (At s.data.toList k done ns X.data.toList) ∧ Hid (wr.ownsRow w.heap.size 3 1 l ns.length (ns.map ivN)) ∧ Below w.heap.size w wr) (fun _ _ i _ => s.size + 1 - (intOf i).toNat)
  case atStart => exact ⟨0, ⟨#[]⟩, [], [], by omega, rfl, rfl, Nat.le_refl _, by simp, Lib.hid ⟨rfl, Or.inl ⟨by omega, rfl, by simp⟩, by simp⟩, Lib.hid (World.ownsRow_nil _ _ _ _), Below.refl _ _⟩
  case round =>
    obtain ⟨k, X, done, ns, hk, rfl, rfl, hX, hns, HA, HO, hB⟩ := hrel
    by_cases hend : s.size < k
    · have hRR := Lib.hid (HEND.out k done ns _ HA.out hend)
      have h3 : ((ns.length : Int) == 3) = decide (ns.length = 3) := by rw [Bool.eq_iff_iff, beq_iff_eq, decide_eq_true_eq]; omega
      obtain ⟨a, cap, rfl⟩ := own_form HO.out
      have hendI : ((s.size : Int) < (k : Int)) := by omega
      clear hk hend
      go_wp2
      go_ret2
      exact Or.inr ⟨ns, _, hRR.out, rfl, HO.out, hB⟩
    · have hki : (k : Int) ≤ (s.size : Int) := by omega
      by_cases hch : ∃ h : k < s.size, s[k] ≠ 46
      · obtain ⟨hlt, hne⟩ := hch
        have hgetk : s.data.toList[k]? = some s[k] := by rw [List.getElem?_eq_getElem (by rw [HS.out]; exact hlt)]; rfl
        have HA2 := Lib.hid (At_char HA.out (by rw [HS.out]; exact hlt) _ hgetk hne)
        have hneI : (((s[k]).toNat : Int) != 46) = true := by
          rw [bne_iff_ne]
          intro h
          exact hne (UInt8.toNat_inj.1 (by show (s[k]).toNat = 46; omega))
        obtain ⟨Y, hY⟩ : ∃ Y : ByteArray, X ++ s.extract k (k + 1) = Y := ⟨_, rfl⟩
        have hYd := cat_char s X k hlt
        have hYs : Y.size = X.size + 1 := by rw [← hY, ByteArray.size_append, ByteArray.size_extract]; omega
        have hes : (s.extract k (k + 1)).size = 1 := by rw [ByteArray.size_extract]; omega
        have hadd : ∀ W : World, (Op.stringOp .add X (s.extract k (k + 1))).run Tryz.prog W = .ok (.string Y) W := fun W => by
          rw [run_string_add_sum W _ _ (by omega), hY]
        rw [hY] at hYd
        rw [← hYd] at HA2
        have HY := Lib.hid hYs
        clear hY hYd hYs hes hgetk hne hend hk
        go_wp2
        go_roundw
        case rel => exact ⟨k + 1, Y, done, ns, by omega, by go_num, rfl, by rw [HY.out]; omega, by omega, HA2, HO, hB⟩
        case measure => simp [intOf]; omega
      · have hdot : Hid (k < s.size → s.data.toList[k]? = some 46) := Lib.hid fun h => by
          rw [List.getElem?_eq_getElem (by rw [HS.out]; exact h)]
          have : s[k] = 46 := Decidable.byContradiction fun hn => hch ⟨h, hn⟩
          rw [← this]; rfl
        have HP : Hid (∀ n, numE X.data.toList = some n → At s.data.toList (k + 1) (done ++ [X.data.toList]) (ns ++ [n]) []) := Lib.hid fun n hn => At_piece HA.out (by rw [HS.out]; omega) (fun h => hdot.out (by rw [HS.out] at h; exact h)) hn
        have HF : Hid (numE X.data.toList = none → R = none) := Lib.hid fun hn => HFAIL.out _ _ _ _ HA.out (by omega) hdot.out hn
        have HNUM := Lib.hid (fun W => refNumber_any X W (by omega))
        have HIS := Lib.hid (fun W => refIs_any X W (by omega))
        have HBr := Lib.hid hB
        obtain ⟨a, cap, rfl⟩ := own_form HO.out
        have E1 := Lib.hid (numE_isD X)
        have E2 := Lib.hid (numE_great X)
        have E3 := Lib.hid (fun h n h2 h3 => numE_some65 X h (n := n) h2 h3)
        have E4 := Lib.hid (fun h n h2 h3 => numE_dec2 X h (n := n) h2 h3)
        obtain ⟨o, ho⟩ : ∃ o, refN 0 X.data.toList = o := ⟨_, rfl⟩
        rw [ho] at HNUM E2 E3 E4
        have hob : ∀ n, o = some n → n < 18446744073709551616 := fun n hn => by
          rw [hn] at ho
          exact refN_lt _ 0 (by omega) ho
        have HOB := Lib.hid hob
        obtain ⟨d, hd⟩ : ∃ d, isD X = d := ⟨_, rfl⟩
        rw [hd] at HIS E1 E2 E3 E4
        clear ho hd hB hk hob
        have hcase : (∃ hlt : k < s.size, (((s[k]).toNat : Int) != 46) = false) ∨ k = s.size := by
          by_cases h : k < s.size
          · left
            refine ⟨h, ?_⟩
            have : s[k] = 46 := Decidable.byContradiction fun hn => hch ⟨h, hn⟩
            rw [this]; rfl
          · right; omega
        clear hch hend hdot
        rcases hcase with ⟨hlt, hneI⟩ | hks
        case inr =>
          have hnlt : ¬ (k : Int) < (s.size : Int) := by omega
          have hklt : ¬ k < s.size := by omega
          clear hks
          cases d with
          | false =>
            have HRN := Lib.hid (HF.out (E1.out rfl))
            clear E1 E2 E3 E4 HP HF
            cases o with
            | none =>
              unfold refNR at HNUM
              go_wp2_with (first | (go_at_call 87; refine (HNUM.out _).mono ?_; rintro e w1 ⟨rfl, rfl⟩) | (go_at_call 67; refine (HIS.out _).mono ?_; rintro e w1 ⟨rfl, rfl⟩))
              go_ret2
              exact Or.inl ⟨HRN.out, rfl, HBr.out⟩
            | some n =>
              have hn64 := HOB.out n rfl
              unfold refNR at HNUM
              go_wp2_with (first | (go_at_call 87; refine (HNUM.out _).mono ?_; rintro e w1 ⟨rfl, rfl⟩) | (go_at_call 67; refine (HIS.out _).mono ?_; rintro e w1 ⟨rfl, rfl⟩))
              go_ret2
              exact Or.inl ⟨HRN.out, rfl, HBr.out⟩
          | true =>
            cases o with
            | none =>
              have HRN := Lib.hid (HF.out (E2.out rfl rfl))
              clear E1 E2 E3 E4 HP HF
              unfold refNR at HNUM
              go_wp2_with (first | (go_at_call 87; refine (HNUM.out _).mono ?_; rintro e w1 ⟨rfl, rfl⟩) | (go_at_call 67; refine (HIS.out _).mono ?_; rintro e w1 ⟨rfl, rfl⟩))
              go_ret2
              exact Or.inl ⟨HRN.out, rfl, HBr.out⟩
            | some n =>
              have hn64 := HOB.out n rfl
              unfold refNR at HNUM
              by_cases hg : 65535 < n
              · have HRN := Lib.hid (HF.out (E3.out rfl n rfl hg))
                have hgI : (65535 : Int) < (n : Int) := by omega
                clear E1 E2 E3 E4 HP HF hg
                go_wp2_with (first | (go_at_call 87; refine (HNUM.out _).mono ?_; rintro e w1 ⟨rfl, rfl⟩) | (go_at_call 67; refine (HIS.out _).mono ?_; rintro e w1 ⟨rfl, rfl⟩))
                go_ret2
                exact Or.inl ⟨HRN.out, rfl, HBr.out⟩
              · have hgI : ¬ (65535 : Int) < (n : Int) := by omega
                have HDEC := Lib.hid (fun W => refDec_any n hn64 W)
                have hE := E4.out rfl n rfl (by omega)
                obtain ⟨D, hD⟩ : ∃ D : ByteArray, (⟨(Lib.decDigits n).toArray⟩ : ByteArray) = D := ⟨_, rfl⟩
                rw [hD] at HDEC hE
                have hbq := beq_toList D X
                by_cases hDX : D = X
                · rw [if_pos hDX] at hE
                  rw [decide_eq_true hDX] at hbq
                  have HAN := Lib.hid (HP.out n hE)
                  clear E1 E2 E3 E4 HP HF hg hE hD hDX
                  go_wp2_with (first | (go_at_call 87; refine (HNUM.out _).mono ?_; rintro e w1 ⟨rfl, rfl⟩) | (go_at_call 67; refine (HIS.out _).mono ?_; rintro e w1 ⟨rfl, rfl⟩) | (go_at_call 88; refine (HDEC.out _).mono ?_; rintro e w1 ⟨rfl, hb1⟩; (have HB1 := Lib.hid (HBr.out.trans (hb1.mono HBr.out.size))); (have HO1 := Lib.hid (HO.out.kept (below_grownV hb1) (by cases (Value.slice a ns.length cap).ownBlock <;> simp))); (have hz8 := HB1.out.size); clear hb1) | (at_builtin; refine wpList_append_own _ rfl (.tmp 54) (.tmp 57) 105 rfl w.heap.size 3 i0 (.int .i64 0) 1 8 Tryz.underlying105 hi hz0 hz1 hz2 rfl (by decide) _ _ _ rfl (HO1.out.alloc _) ⟨w1.heap.size, 0, none⟩ 1 1 [.int .i64 (n : Nat)] rfl rfl (World.news_of_block (cs := #[.int .i64 (n : Nat)]) (t := 3) (fr := (0, 0)) (heap_alloc_newV w1 _)) (by simp [Value.oneCell']) (by unfold maxLen; omega) (by omega) (by simp; omega) ?_; intro v4 w4 hown4 hg4 hnil4))
                  have hz9 : (w1.alloc (.cells #[.int .i64 (n : Nat)] 3)).heap.size = w1.heap.size + 1 := by simp
                  have hB4 : Below w.heap.size w w4 := (HB1.out.alloc HB1.out.size _).grown hg4 (by rw [hz9]; omega) (fun i e => (HO1.out.lt i e).1)
                  go_roundw
                  case rel => exact ⟨k + 1, ⟨#[]⟩, done ++ [X.data.toList], ns ++ [n], by omega, by go_num, rfl, by show 0 ≤ _; omega, by simp; omega, HAN, Lib.hid (by simpa [ivN] using hown4), hB4⟩
                  case measure => simp [intOf]; omega
                · rw [if_neg hDX] at hE
                  rw [decide_eq_false hDX] at hbq
                  have HRN := Lib.hid (HF.out hE)
                  clear E1 E2 E3 E4 HP HF hg hE hD hDX
                  go_wp2_with (first | (go_at_call 87; refine (HNUM.out _).mono ?_; rintro e w1 ⟨rfl, rfl⟩) | (go_at_call 67; refine (HIS.out _).mono ?_; rintro e w1 ⟨rfl, rfl⟩) | (go_at_call 88; refine (HDEC.out _).mono ?_; rintro e w1 ⟨rfl, hb1⟩; (have HB1 := Lib.hid (HBr.out.trans (hb1.mono HBr.out.size))); (have HO1 := Lib.hid (HO.out.kept (below_grownV hb1) (by cases (Value.slice a ns.length cap).ownBlock <;> simp))); clear hb1))
                  go_ret2
                  exact Or.inl ⟨HRN.out, rfl, HB1.out⟩
        case inl =>
          cases d with
          | false =>
            have HRN := Lib.hid (HF.out (E1.out rfl))
            clear E1 E2 E3 E4 HP HF
            cases o with
            | none =>
              unfold refNR at HNUM
              go_wp2_with (first | (go_at_call 87; refine (HNUM.out _).mono ?_; rintro e w1 ⟨rfl, rfl⟩) | (go_at_call 67; refine (HIS.out _).mono ?_; rintro e w1 ⟨rfl, rfl⟩))
              go_ret2
              exact Or.inl ⟨HRN.out, rfl, HBr.out⟩
            | some n =>
              have hn64 := HOB.out n rfl
              unfold refNR at HNUM
              go_wp2_with (first | (go_at_call 87; refine (HNUM.out _).mono ?_; rintro e w1 ⟨rfl, rfl⟩) | (go_at_call 67; refine (HIS.out _).mono ?_; rintro e w1 ⟨rfl, rfl⟩))
              go_ret2
              exact Or.inl ⟨HRN.out, rfl, HBr.out⟩
          | true =>
            cases o with
            | none =>
              have HRN := Lib.hid (HF.out (E2.out rfl rfl))
              clear E1 E2 E3 E4 HP HF
              unfold refNR at HNUM
              go_wp2_with (first | (go_at_call 87; refine (HNUM.out _).mono ?_; rintro e w1 ⟨rfl, rfl⟩) | (go_at_call 67; refine (HIS.out _).mono ?_; rintro e w1 ⟨rfl, rfl⟩))
              go_ret2
              exact Or.inl ⟨HRN.out, rfl, HBr.out⟩
            | some n =>
              have hn64 := HOB.out n rfl
              unfold refNR at HNUM
              by_cases hg : 65535 < n
              · have HRN := Lib.hid (HF.out (E3.out rfl n rfl hg))
                have hgI : (65535 : Int) < (n : Int) := by omega
                clear E1 E2 E3 E4 HP HF hg
                go_wp2_with (first | (go_at_call 87; refine (HNUM.out _).mono ?_; rintro e w1 ⟨rfl, rfl⟩) | (go_at_call 67; refine (HIS.out _).mono ?_; rintro e w1 ⟨rfl, rfl⟩))
                go_ret2
                exact Or.inl ⟨HRN.out, rfl, HBr.out⟩
              · have hgI : ¬ (65535 : Int) < (n : Int) := by omega
                have HDEC := Lib.hid (fun W => refDec_any n hn64 W)
                have hE := E4.out rfl n rfl (by omega)
                obtain ⟨D, hD⟩ : ∃ D : ByteArray, (⟨(Lib.decDigits n).toArray⟩ : ByteArray) = D := ⟨_, rfl⟩
                rw [hD] at HDEC hE
                have hbq := beq_toList D X
                by_cases hDX : D = X
                · rw [if_pos hDX] at hE
                  rw [decide_eq_true hDX] at hbq
                  have HAN := Lib.hid (HP.out n hE)
                  clear E1 E2 E3 E4 HP HF hg hE hD hDX
                  go_wp2_with (first | (go_at_call 87; refine (HNUM.out _).mono ?_; rintro e w1 ⟨rfl, rfl⟩) | (go_at_call 67; refine (HIS.out _).mono ?_; rintro e w1 ⟨rfl, rfl⟩) | (go_at_call 88; refine (HDEC.out _).mono ?_; rintro e w1 ⟨rfl, hb1⟩; (have HB1 := Lib.hid (HBr.out.trans (hb1.mono HBr.out.size))); (have HO1 := Lib.hid (HO.out.kept (below_grownV hb1) (by cases (Value.slice a ns.length cap).ownBlock <;> simp))); (have hz8 := HB1.out.size); clear hb1) | (at_builtin; refine wpList_append_own _ rfl (.tmp 54) (.tmp 57) 105 rfl w.heap.size 3 i0 (.int .i64 0) 1 8 Tryz.underlying105 hi hz0 hz1 hz2 rfl (by decide) _ _ _ rfl (HO1.out.alloc _) ⟨w1.heap.size, 0, none⟩ 1 1 [.int .i64 (n : Nat)] rfl rfl (World.news_of_block (cs := #[.int .i64 (n : Nat)]) (t := 3) (fr := (0, 0)) (heap_alloc_newV w1 _)) (by simp [Value.oneCell']) (by unfold maxLen; omega) (by omega) (by simp; omega) ?_; intro v4 w4 hown4 hg4 hnil4))
                  have hz9 : (w1.alloc (.cells #[.int .i64 (n : Nat)] 3)).heap.size = w1.heap.size + 1 := by simp
                  have hB4 : Below w.heap.size w w4 := (HB1.out.alloc HB1.out.size _).grown hg4 (by rw [hz9]; omega) (fun i e => (HO1.out.lt i e).1)
                  go_roundw
                  case rel => exact ⟨k + 1, ⟨#[]⟩, done ++ [X.data.toList], ns ++ [n], by omega, by go_num, rfl, by show 0 ≤ _; omega, by simp; omega, HAN, Lib.hid (by simpa [ivN] using hown4), hB4⟩
                  case measure => simp [intOf]; omega
                · rw [if_neg hDX] at hE
                  rw [decide_eq_false hDX] at hbq
                  have HRN := Lib.hid (HF.out hE)
                  clear E1 E2 E3 E4 HP HF hg hE hD hDX
                  go_wp2_with (first | (go_at_call 87; refine (HNUM.out _).mono ?_; rintro e w1 ⟨rfl, rfl⟩) | (go_at_call 67; refine (HIS.out _).mono ?_; rintro e w1 ⟨rfl, rfl⟩) | (go_at_call 88; refine (HDEC.out _).mono ?_; rintro e w1 ⟨rfl, hb1⟩; (have HB1 := Lib.hid (HBr.out.trans (hb1.mono HBr.out.size))); (have HO1 := Lib.hid (HO.out.kept (below_grownV hb1) (by cases (Value.slice a ns.length cap).ownBlock <;> simp))); clear hb1))
                  go_ret2
                  exact Or.inl ⟨HRN.out, rfl, HB1.out⟩
end Go.Proofs.YtldjnegoefdadaaGreatDoor
