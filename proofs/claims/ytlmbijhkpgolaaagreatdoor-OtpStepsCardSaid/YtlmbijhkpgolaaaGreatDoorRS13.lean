/- A loop of the document's sum. -/
import Derived.OwnWalk
import Derived.Deep.OwnRows
import Derived.Deep.RegionHeld3
import Derived.Test.YtlmbijhkpgolaaaGreatDoorRSB
namespace Go.Proofs.YtlmbijhkpgolaaaGreatDoor
open Go.RowKit
set_option linter.unusedVariables false
set_option linter.unusedSimpArgs false
attribute [local irreducible] mixK rnds sched add8 comp moreW firstW nextW rnd shaL bytes8 blk wpart wordPart wrow brow
noncomputable def body13 : Code := (((Tryz.f36.body.map bodies).getD [])[4]?).getD .skip
set_option maxRecDepth 1000000 in
set_option maxHeartbeats 40000000 in
theorem loop13 {s0 s1 s2 s3 s5 s6 s8 s9 s10 s11 s12 s15 s16 s17 s18 s19 s20 s21 s22 s23 s24 s25 s26 s27 s28 s29 s30 s31 s32 s33 s34 s35 s36 s37 s38 s39 s40 s41 s42 s43 s44 s45 s46 s47 s48 s49 s50 s51 s52 s53 s54 s55 s56 s57 s58 s59 s60 s61 s62 s63 s64 s65 s66 s67 s68 s69 s70 s71 s72 s73 s74 s75 s76 s77 s78 s79 s80 s81 s82 s83 s84 s85 s86 s87 s88 s89 s90 s91 s92 s93 s94 s95 s96 s97 s98 s99 s100 s101 s102 s103 s104 s105 s106 s107 s108 s109 s110 s111 s112 s113 s114 s115 s116 s117 s118 s119 s120 s121 s122 s123 s124 s125 s126 s127 s128 s129 s130 s131 s132 s133 s134 s135 s136 s137 s138 s139 s140 s141 s142 s143 s144 s145 s146 s147 s148 s149 s150 s151 s152 s153 s154 s155 s156 s157 s158 s159 s160 s161 s162 s163 s164 s165 s166 s167 s168 s169 s170 s171 s172 s173 s174 s175 s176 s177 s178 s179 s180 s181 s182 s183 s184 s185 s186 s187 s188 s189 s190 s191 s192 s193 s194 s195 s196 s197 s198 s199 s200 s201 s202 s203 s204 s205 s206 s207 s208 s209 s210 s211 s212 s213 s214 s215 s216 s217 s218 s219 s220 s221 s222 s223 s224 s225 s226 s227 s228 s229 s230 s231 s232 s233 s234 s235 s236 s237 s238 s239 s240 s241 s242 s243 s244 s245 s246 s247 s248 s249 s250 s251 s252 s253 s254 s255 s256 s257 s258 s259 s260 s261 s262 s263 s264 s265 s266 s267 s268 s269 s270 s271 s272 s273 s274 s275 s276 s277 s278 s279 s280 s281 s282 s283 s284 s285 s286 s287 s288 s289 s290 s291 s292 s293 s294 s295 s296 s297 : Value} (gk gw gv : Nat) (T : S8) (sc : List UInt32) (w1 : World) (Q0 : Exit → Act → World → Prop)
    (pk : Row w1 gk 66 (wrow K64)) (pw : Row w1 gw 66 (wrow sc)) (r4 : Row w1 gv 66 (s8l T)) (lk : gk < gv) (lw : gw < gv) (hscl : sc.length = 64) (hgv4 : gv < w1.heap.size)
    (hexit : ∀ (u14 u15 u16 u17 u18 u19 u20 u147 u148 u149 u150 u151 u152 u153 u154 u155 u156 u157 u158 u159 u160 u161 u162 u163 u164 u165 u166 u167 u168 u169 u170 u171 u172 u173 u174 u175 u176 u177 u178 u179 u180 u181 u182 u183 u184 u185 u186 u187 u188 u189 u190 u191 u192 u193 u194 u195 u196 u197 u198 u199 u200 u201 u202 u203 u204 u205 u206 u207 u208 u209 u210 u211 u212 u213 u214 u215 u216 u217 u218 u219 u220 u221 u222 u223 u224 u225 u226 u227 u228 u229 u230 u231 u232 u233 u234 u235 u236 u237 u238 u239 u240 u241 u242 u243 u244 u245 u246 u247 u248 u249 u250 u251 u252 u253 u254 u255 u256 u257 u258 u259 u260 u261 u262 u263 : Value) (g : Nat) (wb : World), Row wb g 66 (s8l (rnds T sc 64)) → gv ≤ g → Below gv w1 wb → Q0 (.exit 8) ⟨List.toArray (s0 :: s1 :: s2 :: s3 :: .slice (some ⟨gk, 0, none⟩) 64 64 :: s5 :: s6 :: .slice (some ⟨gw, 0, none⟩) 64 64 :: s8 :: s9 :: s10 :: s11 :: s12 :: (.slice (some ⟨g, 0, none⟩) 8 8) :: u14 :: u15 :: u16 :: u17 :: u18 :: u19 :: u20 :: s21 :: s22 :: s23 :: s24 :: s25 :: s26 :: s27 :: s28 :: s29 :: s30 :: s31 :: s32 :: s33 :: s34 :: s35 :: s36 :: s37 :: s38 :: s39 :: s40 :: s41 :: s42 :: s43 :: s44 :: s45 :: s46 :: s47 :: s48 :: s49 :: s50 :: s51 :: s52 :: s53 :: s54 :: s55 :: s56 :: s57 :: s58 :: s59 :: s60 :: s61 :: s62 :: s63 :: s64 :: s65 :: s66 :: s67 :: s68 :: s69 :: s70 :: s71 :: s72 :: s73 :: s74 :: s75 :: s76 :: s77 :: s78 :: s79 :: s80 :: s81 :: s82 :: s83 :: s84 :: s85 :: s86 :: s87 :: s88 :: s89 :: s90 :: s91 :: s92 :: s93 :: s94 :: s95 :: s96 :: s97 :: s98 :: s99 :: s100 :: s101 :: s102 :: s103 :: s104 :: s105 :: s106 :: s107 :: s108 :: s109 :: s110 :: s111 :: s112 :: s113 :: s114 :: s115 :: s116 :: s117 :: s118 :: s119 :: s120 :: s121 :: s122 :: s123 :: s124 :: s125 :: s126 :: s127 :: s128 :: s129 :: s130 :: s131 :: s132 :: s133 :: s134 :: s135 :: s136 :: s137 :: s138 :: s139 :: s140 :: s141 :: s142 :: s143 :: s144 :: s145 :: s146 :: u147 :: u148 :: u149 :: u150 :: u151 :: u152 :: u153 :: u154 :: u155 :: u156 :: u157 :: u158 :: u159 :: u160 :: u161 :: u162 :: u163 :: u164 :: u165 :: u166 :: u167 :: u168 :: u169 :: u170 :: u171 :: u172 :: u173 :: u174 :: u175 :: u176 :: u177 :: u178 :: u179 :: u180 :: u181 :: u182 :: u183 :: u184 :: u185 :: u186 :: u187 :: u188 :: u189 :: u190 :: u191 :: u192 :: u193 :: u194 :: u195 :: u196 :: u197 :: u198 :: u199 :: u200 :: u201 :: u202 :: u203 :: u204 :: u205 :: u206 :: u207 :: u208 :: u209 :: u210 :: u211 :: u212 :: u213 :: u214 :: u215 :: u216 :: u217 :: u218 :: u219 :: u220 :: u221 :: u222 :: u223 :: u224 :: u225 :: u226 :: u227 :: u228 :: u229 :: u230 :: u231 :: u232 :: u233 :: u234 :: u235 :: u236 :: u237 :: u238 :: u239 :: u240 :: u241 :: u242 :: u243 :: u244 :: u245 :: u246 :: u247 :: u248 :: u249 :: u250 :: u251 :: u252 :: u253 :: u254 :: u255 :: u256 :: u257 :: u258 :: u259 :: u260 :: u261 :: u262 :: u263 :: s264 :: s265 :: s266 :: s267 :: s268 :: s269 :: s270 :: s271 :: s272 :: s273 :: s274 :: s275 :: s276 :: s277 :: s278 :: s279 :: s280 :: s281 :: s282 :: s283 :: s284 :: s285 :: s286 :: s287 :: s288 :: s289 :: s290 :: s291 :: s292 :: s293 :: s294 :: s295 :: s296 :: s297 :: []), []⟩ wb) :
    Code.wp Tryz.prog (Code.loop body13) Q0 ⟨List.toArray (s0 :: s1 :: s2 :: s3 :: .slice (some ⟨gk, 0, none⟩) 64 64 :: s5 :: s6 :: .slice (some ⟨gw, 0, none⟩) 64 64 :: s8 :: s9 :: s10 :: s11 :: s12 :: .slice (some ⟨gv, 0, none⟩) 8 8 :: .int .i64 0 :: s15 :: s16 :: s17 :: s18 :: s19 :: s20 :: s21 :: s22 :: s23 :: s24 :: s25 :: s26 :: s27 :: s28 :: s29 :: s30 :: s31 :: s32 :: s33 :: s34 :: s35 :: s36 :: s37 :: s38 :: s39 :: s40 :: s41 :: s42 :: s43 :: s44 :: s45 :: s46 :: s47 :: s48 :: s49 :: s50 :: s51 :: s52 :: s53 :: s54 :: s55 :: s56 :: s57 :: s58 :: s59 :: s60 :: s61 :: s62 :: s63 :: s64 :: s65 :: s66 :: s67 :: s68 :: s69 :: s70 :: s71 :: s72 :: s73 :: s74 :: s75 :: s76 :: s77 :: s78 :: s79 :: s80 :: s81 :: s82 :: s83 :: s84 :: s85 :: s86 :: s87 :: s88 :: s89 :: s90 :: s91 :: s92 :: s93 :: s94 :: s95 :: s96 :: s97 :: s98 :: s99 :: s100 :: s101 :: s102 :: s103 :: s104 :: s105 :: s106 :: s107 :: s108 :: s109 :: s110 :: s111 :: s112 :: s113 :: s114 :: s115 :: s116 :: s117 :: s118 :: s119 :: s120 :: s121 :: s122 :: s123 :: s124 :: s125 :: s126 :: s127 :: s128 :: s129 :: s130 :: s131 :: s132 :: s133 :: s134 :: s135 :: s136 :: s137 :: s138 :: s139 :: s140 :: s141 :: s142 :: s143 :: s144 :: s145 :: s146 :: s147 :: s148 :: s149 :: s150 :: s151 :: s152 :: s153 :: s154 :: s155 :: s156 :: s157 :: s158 :: s159 :: s160 :: s161 :: s162 :: s163 :: s164 :: s165 :: s166 :: s167 :: s168 :: s169 :: s170 :: s171 :: s172 :: s173 :: s174 :: s175 :: s176 :: s177 :: s178 :: s179 :: s180 :: s181 :: s182 :: s183 :: s184 :: s185 :: s186 :: s187 :: s188 :: s189 :: s190 :: s191 :: s192 :: s193 :: s194 :: s195 :: s196 :: s197 :: s198 :: s199 :: s200 :: s201 :: s202 :: s203 :: s204 :: s205 :: s206 :: s207 :: s208 :: s209 :: s210 :: s211 :: s212 :: s213 :: s214 :: s215 :: s216 :: s217 :: s218 :: s219 :: s220 :: s221 :: s222 :: s223 :: s224 :: s225 :: s226 :: s227 :: s228 :: s229 :: s230 :: s231 :: s232 :: s233 :: s234 :: s235 :: s236 :: s237 :: s238 :: s239 :: s240 :: s241 :: s242 :: s243 :: s244 :: s245 :: s246 :: s247 :: s248 :: s249 :: s250 :: s251 :: s252 :: s253 :: s254 :: s255 :: s256 :: s257 :: s258 :: s259 :: s260 :: s261 :: s262 :: s263 :: s264 :: s265 :: s266 :: s267 :: s268 :: s269 :: s270 :: s271 :: s272 :: s273 :: s274 :: s275 :: s276 :: s277 :: s278 :: s279 :: s280 :: s281 :: s282 :: s283 :: s284 :: s285 :: s286 :: s287 :: s288 :: s289 :: s290 :: s291 :: s292 :: s293 :: s294 :: s295 :: s296 :: s297 :: []), []⟩ w1 := by
  have HX := Lib.hid hexit
  clear hexit
  conv => arg 2; arg 1; whnf
  have HQ4 := Lib.hid (And.intro pk pw)
  clear pk pw
  go_loopw [13, 14] (fun v i wb => ∃ (q g : Nat), q ≤ 64 ∧ i = .int .i64 q ∧ v = .slice (some ⟨g, 0, none⟩) 8 8 ∧ Row wb g 66 (s8l (rnds T sc q)) ∧ gv ≤ g ∧ Below gv w1 wb) (fun _ i _ => 64 - (intOf i).toNat)
  case atStart => exact ⟨0, gv, Nat.zero_le _, rfl, rfl, by rw [rnds_zero]; exact r4, Nat.le_refl _, Below.refl _ _⟩
  case round =>
    obtain ⟨q, g, hq, rfl, rfl, rv, hgg, bv4⟩ := hrel
    clear r4
    by_cases hlq : q < 64
    · skip
      obtain ⟨U, hU⟩ : ∃ U, rnds T sc q = U := ⟨_, rfl⟩
      have hnx : rnds T sc (q + 1) = rnd U (uadd (K64.getD q 0) (sc.getD q 0)) := by rw [← hU]; exact rnds_next T sc q
      rw [hU] at rv
      rw [← rrnd_eq] at hnx
      have hck : wr.cell? ⟨gk, q, none⟩ = some (.int .u32 ((K64.getD q 0).toNat : Int)) := by
        rw [(HQ4.out.1.below bv4 lk).cell]; exact wrow_get hlq
      have hcw : wr.cell? ⟨gw, q, none⟩ = some (.int .u32 ((sc.getD q 0).toNat : Int)) := by
        rw [(HQ4.out.2.below bv4 lw).cell]; exact wrow_get (by omega)
      obtain ⟨kq, hkq⟩ : ∃ x, K64.getD q 0 = x := ⟨_, rfl⟩
      obtain ⟨xq, hxq⟩ : ∃ x, sc.getD q 0 = x := ⟨_, rfl⟩
      rw [hkq] at hck hnx
      rw [hxq] at hcw hnx
      have HN := Lib.hid hnx
      have RV := Lib.hid (And.intro rv (And.intro hgg bv4))
      have hgl := rv.lt
      have hs4 := bv4.size
      obtain ⟨c0, c1, c2, c3, c4, c5, c6, c7⟩ := cells8 rv
      have hX := u32_xor
      have hA := u32_and
      have hD := u32_add
      have hN := u32_sub
      have hqI : (q : Int) < 64 := by omega
      clear hkq hxq hnx rv bv4 hU hgg
      go_wp2
      go_quiet ((go_at_call 52; first | (refine (rotrQ2 _ _ ?hb _ _ _).mono ?_; (case hb => decide); rintro e1 w1 ⟨rfl, m, rfl⟩; exact ⟨rfl, m, rfl⟩) | (refine (rotrQ _ _ ?hb _ _ ⟨_, rfl⟩).mono ?_; (case hb => decide); rintro e1 w1 ⟨rfl, m, rfl⟩; exact ⟨rfl, m, rfl⟩)))
      go_wp2
      go_quiet (fail)
      try simp only [u32_mod, u32_and, u32_xor]
      go_wp2
      go_quiet (fail)
      try simp only [u32_mod, u32_add]
      go_wp2
      go_quiet ((go_at_call 52; first | (refine (rotrQ2 _ _ ?hb _ _ _).mono ?_; (case hb => decide); rintro e1 w1 ⟨rfl, m, rfl⟩; exact ⟨rfl, m, rfl⟩) | (refine (rotrQ _ _ ?hb _ _ ⟨_, rfl⟩).mono ?_; (case hb => decide); rintro e1 w1 ⟨rfl, m, rfl⟩; exact ⟨rfl, m, rfl⟩)))
      go_wp2
      go_quiet (fail)
      try simp only [u32_mod, u32_add]
      go_wp2
      refine wp_gen (fun W => Row W g 66 (s8l U) ∧ Below gv w1 W) ⟨RV.out.1, ⟨RV.out.2.2.os, RV.out.2.2.tape, RV.out.2.2.output, RV.out.2.2.size, RV.out.2.2.block⟩⟩ ?_
      rintro wx ⟨rx, bx⟩
      clear c0 c1 c2 c3 c4 c5 c6 c7 hck hcw
      obtain ⟨c0, c1, c2, c3, c4, c5, c6, c7⟩ := cells8 rx
      have RX := Lib.hid rx
      have BX := Lib.hid bx
      clear rx bx
      go_region_held3 (fun w' => w'.cell? ⟨g, 0, none⟩ = some (.int .u32 U.a.toNat) ∧ w'.cell? ⟨g, 1, none⟩ = some (.int .u32 U.b.toNat) ∧ w'.cell? ⟨g, 2, none⟩ = some (.int .u32 U.c.toNat) ∧ w'.cell? ⟨g, 3, none⟩ = some (.int .u32 U.d.toNat) ∧
w'.cell? ⟨g, 4, none⟩ = some (.int .u32 U.e.toNat) ∧ w'.cell? ⟨g, 5, none⟩ = some (.int .u32 U.f.toNat) ∧ w'.cell? ⟨g, 6, none⟩ = some (.int .u32 U.g.toNat) ∧ w'.cell? ⟨g, 7, none⟩ = some (.int .u32 U.h.toNat))
(first
| (exact ⟨c0, c1, c2, c3, c4, c5, c6, c7⟩)
| (exact cells8 ((RX.out.alloc _).drewN 1)))
(first
| (fail))
      try simp only [IntKind.wrap_u32', u32_mod, u32_add]
      go_wp2
      go_roundw
      case rel => exact ⟨q + 1, wx.heap.size, by omega, by go_num, rfl, by rw [HN.out]; exact Row.drewN (Row.new wx _ (s8l (rrnd U kq xq))) 1, Nat.le_trans (Nat.le_of_lt hgv4) BX.out.size, below_drewN (BX.out.alloc (Nat.le_trans (Nat.le_of_lt hgv4) BX.out.size) (.cells (s8l (rrnd U kq xq)).toArray 66)) 1⟩
      case measure => simp [intOf]; omega
    · have hq64 : q = 64 := by omega
      have hge : 64 ≤ q := by omega
      rw [hq64] at rv
      have HV := Lib.hid (And.intro rv (And.intro hgg bv4))
      clear hq64 hlq hq rv hgg bv4
      go_wp2
      exact HX.out _ _ _ _ _ _ _ _ _ _ _ _ _ _ _ _ _ _ _ _ _ _ _ _ _ _ _ _ _ _ _ _ _ _ _ _ _ _ _ _ _ _ _ _ _ _ _ _ _ _ _ _ _ _ _ _ _ _ _ _ _ _ _ _ _ _ _ _ _ _ _ _ _ _ _ _ _ _ _ _ _ _ _ _ _ _ _ _ _ _ _ _ _ _ _ _ _ _ _ _ _ _ _ _ _ _ _ _ _ _ _ _ _ _ _ _ _ _ _ _ _ _ _ _ _ _ HV.out.1 HV.out.2.1 HV.out.2.2
end Go.Proofs.YtlmbijhkpgolaaaGreatDoor
