/- A loop of the document's sum. -/
import Derived.OwnWalk
import Derived.Deep.OwnRows
import Derived.Deep.RegionHeld3
import Derived.Test.YtlmbijhkpgolaaaGreatDoorRSB
namespace Go.Proofs.YtlmbijhkpgolaaaGreatDoor
open Go.RowKit
set_option linter.unusedVariables false
set_option linter.unusedSimpArgs false
attribute [local irreducible] mixK rnds sched add8 comp moreW firstW nextW rnd shaL bytes8 blk wpart wordPart wrow brow
noncomputable def body22 : Code := (((Tryz.f36.body.map bodies).getD [])[6]?).getD .skip
set_option maxRecDepth 1000000 in
set_option maxHeartbeats 40000000 in
theorem loop22 {s0 s1 s2 s3 s4 s6 s7 s8 s9 s10 s11 s12 s13 s14 s15 s16 s17 s18 s19 s20 s23 s24 s25 s26 s27 s28 s29 s30 s31 s32 s33 s34 s35 s36 s37 s38 s39 s40 s41 s42 s43 s44 s45 s46 s47 s48 s49 s50 s51 s52 s53 s54 s55 s56 s57 s58 s59 s60 s61 s62 s63 s64 s65 s66 s67 s68 s69 s70 s71 s72 s73 s74 s75 s76 s77 s78 s79 s80 s81 s82 s83 s84 s85 s86 s87 s88 s89 s90 s91 s92 s93 s94 s95 s96 s97 s98 s99 s100 s101 s102 s103 s104 s105 s106 s107 s108 s109 s110 s111 s112 s113 s114 s115 s116 s117 s118 s119 s120 s121 s122 s123 s124 s125 s126 s127 s128 s129 s130 s131 s132 s133 s134 s135 s136 s137 s138 s139 s140 s141 s142 s143 s144 s145 s146 s147 s148 s149 s150 s151 s152 s153 s154 s155 s156 s157 s158 s159 s160 s161 s162 s163 s164 s165 s166 s167 s168 s169 s170 s171 s172 s173 s174 s175 s176 s177 s178 s179 s180 s181 s182 s183 s184 s185 s186 s187 s188 s189 s190 s191 s192 s193 s194 s195 s196 s197 s198 s199 s200 s201 s202 s203 s204 s205 s206 s207 s208 s209 s210 s211 s212 s213 s214 s215 s216 s217 s218 s219 s220 s221 s222 s223 s224 s225 s226 s227 s228 s229 s230 s231 s232 s233 s234 s235 s236 s237 s238 s239 s240 s241 s242 s243 s244 s245 s246 s247 s248 s249 s250 s251 s252 s253 s254 s255 s256 s257 s258 s259 s260 s261 s262 s263 s264 s265 s266 s267 s268 s269 s270 s271 s272 s273 s274 s275 s276 s277 s278 s279 s280 s281 s282 s283 s284 s285 s286 s287 s288 s289 s290 s291 s292 s293 s294 s295 s296 s297 : Value} (gk gx : Nat) (S : S8) (w w1 : World) (Q0 : Exit → Act → World → Prop)
    (q1 : Row w1 gx 56 z32) (qh : Row w1 (gk + 1) 66 (s8l S)) (q0 : Row w1 w.heap.size 56 z32) (qb : Below w.heap.size w w1) (hl0 : w.heap.size < gk) (hgh : gk + 1 < gx)
    (hexit : ∀ (u22 u264 u265 u266 u267 u268 u269 u270 u271 u272 u273 u274 u275 u276 u277 u278 u279 u280 u281 u282 u283 u284 u285 u286 u287 u288 u289 u290 u291 u292 u293 u294 u295 u296 u297 : Value) (wb : World), Row wb gx 56 (brow S 32) → Row wb w.heap.size 56 z32 → Below w.heap.size w wb → Q0 (.exit 12) ⟨List.toArray (s0 :: s1 :: s2 :: s3 :: s4 :: .slice (some ⟨gk + 1, 0, none⟩) 8 8 :: s6 :: s7 :: s8 :: s9 :: s10 :: s11 :: s12 :: s13 :: s14 :: s15 :: s16 :: s17 :: s18 :: s19 :: s20 :: .pointer (some ⟨gx, 0, none⟩) :: u22 :: s23 :: s24 :: s25 :: s26 :: s27 :: s28 :: s29 :: s30 :: s31 :: s32 :: s33 :: s34 :: s35 :: s36 :: s37 :: s38 :: s39 :: s40 :: s41 :: s42 :: s43 :: s44 :: s45 :: s46 :: s47 :: s48 :: s49 :: s50 :: s51 :: s52 :: s53 :: s54 :: s55 :: s56 :: s57 :: s58 :: s59 :: s60 :: s61 :: s62 :: s63 :: s64 :: s65 :: s66 :: s67 :: s68 :: s69 :: s70 :: s71 :: s72 :: s73 :: s74 :: s75 :: s76 :: s77 :: s78 :: s79 :: s80 :: s81 :: s82 :: s83 :: s84 :: s85 :: s86 :: s87 :: s88 :: s89 :: s90 :: s91 :: s92 :: s93 :: s94 :: s95 :: s96 :: s97 :: s98 :: s99 :: s100 :: s101 :: s102 :: s103 :: s104 :: s105 :: s106 :: s107 :: s108 :: s109 :: s110 :: s111 :: s112 :: s113 :: s114 :: s115 :: s116 :: s117 :: s118 :: s119 :: s120 :: s121 :: s122 :: s123 :: s124 :: s125 :: s126 :: s127 :: s128 :: s129 :: s130 :: s131 :: s132 :: s133 :: s134 :: s135 :: s136 :: s137 :: s138 :: s139 :: s140 :: s141 :: s142 :: s143 :: s144 :: s145 :: s146 :: s147 :: s148 :: s149 :: s150 :: s151 :: s152 :: s153 :: s154 :: s155 :: s156 :: s157 :: s158 :: s159 :: s160 :: s161 :: s162 :: s163 :: s164 :: s165 :: s166 :: s167 :: s168 :: s169 :: s170 :: s171 :: s172 :: s173 :: s174 :: s175 :: s176 :: s177 :: s178 :: s179 :: s180 :: s181 :: s182 :: s183 :: s184 :: s185 :: s186 :: s187 :: s188 :: s189 :: s190 :: s191 :: s192 :: s193 :: s194 :: s195 :: s196 :: s197 :: s198 :: s199 :: s200 :: s201 :: s202 :: s203 :: s204 :: s205 :: s206 :: s207 :: s208 :: s209 :: s210 :: s211 :: s212 :: s213 :: s214 :: s215 :: s216 :: s217 :: s218 :: s219 :: s220 :: s221 :: s222 :: s223 :: s224 :: s225 :: s226 :: s227 :: s228 :: s229 :: s230 :: s231 :: s232 :: s233 :: s234 :: s235 :: s236 :: s237 :: s238 :: s239 :: s240 :: s241 :: s242 :: s243 :: s244 :: s245 :: s246 :: s247 :: s248 :: s249 :: s250 :: s251 :: s252 :: s253 :: s254 :: s255 :: s256 :: s257 :: s258 :: s259 :: s260 :: s261 :: s262 :: s263 :: u264 :: u265 :: u266 :: u267 :: u268 :: u269 :: u270 :: u271 :: u272 :: u273 :: u274 :: u275 :: u276 :: u277 :: u278 :: u279 :: u280 :: u281 :: u282 :: u283 :: u284 :: u285 :: u286 :: u287 :: u288 :: u289 :: u290 :: u291 :: u292 :: u293 :: u294 :: u295 :: u296 :: u297 :: []), []⟩ wb) :
    Code.wp Tryz.prog (Code.loop body22) Q0 ⟨List.toArray (s0 :: s1 :: s2 :: s3 :: s4 :: .slice (some ⟨gk + 1, 0, none⟩) 8 8 :: s6 :: s7 :: s8 :: s9 :: s10 :: s11 :: s12 :: s13 :: s14 :: s15 :: s16 :: s17 :: s18 :: s19 :: s20 :: .pointer (some ⟨gx, 0, none⟩) :: .int .i64 0 :: s23 :: s24 :: s25 :: s26 :: s27 :: s28 :: s29 :: s30 :: s31 :: s32 :: s33 :: s34 :: s35 :: s36 :: s37 :: s38 :: s39 :: s40 :: s41 :: s42 :: s43 :: s44 :: s45 :: s46 :: s47 :: s48 :: s49 :: s50 :: s51 :: s52 :: s53 :: s54 :: s55 :: s56 :: s57 :: s58 :: s59 :: s60 :: s61 :: s62 :: s63 :: s64 :: s65 :: s66 :: s67 :: s68 :: s69 :: s70 :: s71 :: s72 :: s73 :: s74 :: s75 :: s76 :: s77 :: s78 :: s79 :: s80 :: s81 :: s82 :: s83 :: s84 :: s85 :: s86 :: s87 :: s88 :: s89 :: s90 :: s91 :: s92 :: s93 :: s94 :: s95 :: s96 :: s97 :: s98 :: s99 :: s100 :: s101 :: s102 :: s103 :: s104 :: s105 :: s106 :: s107 :: s108 :: s109 :: s110 :: s111 :: s112 :: s113 :: s114 :: s115 :: s116 :: s117 :: s118 :: s119 :: s120 :: s121 :: s122 :: s123 :: s124 :: s125 :: s126 :: s127 :: s128 :: s129 :: s130 :: s131 :: s132 :: s133 :: s134 :: s135 :: s136 :: s137 :: s138 :: s139 :: s140 :: s141 :: s142 :: s143 :: s144 :: s145 :: s146 :: s147 :: s148 :: s149 :: s150 :: s151 :: s152 :: s153 :: s154 :: s155 :: s156 :: s157 :: s158 :: s159 :: s160 :: s161 :: s162 :: s163 :: s164 :: s165 :: s166 :: s167 :: s168 :: s169 :: s170 :: s171 :: s172 :: s173 :: s174 :: s175 :: s176 :: s177 :: s178 :: s179 :: s180 :: s181 :: s182 :: s183 :: s184 :: s185 :: s186 :: s187 :: s188 :: s189 :: s190 :: s191 :: s192 :: s193 :: s194 :: s195 :: s196 :: s197 :: s198 :: s199 :: s200 :: s201 :: s202 :: s203 :: s204 :: s205 :: s206 :: s207 :: s208 :: s209 :: s210 :: s211 :: s212 :: s213 :: s214 :: s215 :: s216 :: s217 :: s218 :: s219 :: s220 :: s221 :: s222 :: s223 :: s224 :: s225 :: s226 :: s227 :: s228 :: s229 :: s230 :: s231 :: s232 :: s233 :: s234 :: s235 :: s236 :: s237 :: s238 :: s239 :: s240 :: s241 :: s242 :: s243 :: s244 :: s245 :: s246 :: s247 :: s248 :: s249 :: s250 :: s251 :: s252 :: s253 :: s254 :: s255 :: s256 :: s257 :: s258 :: s259 :: s260 :: s261 :: s262 :: s263 :: s264 :: s265 :: s266 :: s267 :: s268 :: s269 :: s270 :: s271 :: s272 :: s273 :: s274 :: s275 :: s276 :: s277 :: s278 :: s279 :: s280 :: s281 :: s282 :: s283 :: s284 :: s285 :: s286 :: s287 :: s288 :: s289 :: s290 :: s291 :: s292 :: s293 :: s294 :: s295 :: s296 :: s297 :: []), []⟩ w1 := by
  have HX := Lib.hid hexit
  clear hexit
  conv => arg 2; arg 1; whnf
  go_loopw [22] (fun i wb => ∃ k : Nat, k ≤ 32 ∧ i = .int .i64 k ∧ Row wb gx 56 (brow S k) ∧ Row wb (gk + 1) 66 (s8l S) ∧ Row wb w.heap.size 56 z32 ∧ Below w.heap.size w wb) (fun i _ => 32 - (intOf i).toNat)
  case atStart => exact ⟨0, Nat.zero_le _, rfl, by rw [brow_zero]; exact q1, qh, q0, qb⟩
  case round =>
    obtain ⟨k, hk, rfl, h1, h2, h3, h4⟩ := hrel
    clear q0 qh qb q1
    by_cases hlt : k < 32
    · obtain ⟨a, r, hka, ha, hr⟩ : ∃ a r, k = 4 * a + r ∧ a < 8 ∧ r < 4 := ⟨k / 4, k % 4, by omega, by omega, by omega⟩
      have hdiv : (k : Int) / 4 = (a : Int) := by omega
      have haI : (a : Int) < 8 := by omega
      have hch : wr.cell? ⟨gk + 1, a, none⟩ = some (.int .u32 ((at8 S a).toNat : Int)) := by rw [h2.cell]; exact at8_get _ ha
      obtain ⟨v0, hc0⟩ : ∃ v, wr.cell? ⟨gx, k, none⟩ = some v := by
        rw [h1.cell]; exact ⟨_, List.getElem?_eq_getElem (by rw [brow_length S hk]; exact hlt)⟩
      have hf0 := h1.frozen k
      rcases (by omega : r = 0 ∨ r = 1 ∨ r = 2 ∨ r = 3) with rfl | rfl | rfl | rfl
      · have hmod : (k : Int) % 4 = 0 := by omega
        have hbyte := byteI (at8 S a) 16777216
        have hx := bytes8_get S a 0 ha (by omega)
        obtain ⟨c, hc⟩ : ∃ c, UInt8.ofNat ((at8 S a).toNat / 16777216 % 256) = c := ⟨_, rfl⟩
        have hx2 : (bytes8 S)[k]? = some c := by rw [← hc, ← hx, hka]
        have hs1 := h1.set k (.int .u8 (c.toNat : Int))
        rw [brow_set S hlt c hx2] at hs1
        have hs2 := h2.far (p := ⟨gx, k, none⟩) (by show gk + 1 ≠ gx; omega) (.int .u8 (c.toNat : Int))
        have hs3 := h3.far (p := ⟨gx, k, none⟩) (by show w.heap.size ≠ gx; omega) (.int .u8 (c.toNat : Int))
        have hs4 := h4.setCell (p := ⟨gx, k, none⟩) (by show w.heap.size ≤ gx; omega) (.int .u8 (c.toNat : Int))
        rw [hc] at hbyte
        obtain ⟨xa, hxa⟩ : ∃ x, at8 S a = x := ⟨_, rfl⟩
        rw [hxa] at hbyte hch
        simp only [Int.cast_ofNat_Int] at hbyte
        have H := Lib.hid (And.intro hs1 (And.intro hs2 (And.intro hs3 hs4)))
        clear hs1 hs2 hs3 hs4 h1 h2 h3 h4 hx hx2 hc hxa hka
        go_wp2
        go_roundw
        case rel => exact ⟨k + 1, by omega, by go_num, H.out.1, H.out.2.1, H.out.2.2.1, H.out.2.2.2⟩
        case measure => simp [intOf]; omega
      · have hmod : (k : Int) % 4 = 1 := by omega
        have hbyte := byteI (at8 S a) 65536
        have hx := bytes8_get S a 1 ha (by omega)
        obtain ⟨c, hc⟩ : ∃ c, UInt8.ofNat ((at8 S a).toNat / 65536 % 256) = c := ⟨_, rfl⟩
        have hx2 : (bytes8 S)[k]? = some c := by rw [← hc, ← hx, hka]
        have hs1 := h1.set k (.int .u8 (c.toNat : Int))
        rw [brow_set S hlt c hx2] at hs1
        have hs2 := h2.far (p := ⟨gx, k, none⟩) (by show gk + 1 ≠ gx; omega) (.int .u8 (c.toNat : Int))
        have hs3 := h3.far (p := ⟨gx, k, none⟩) (by show w.heap.size ≠ gx; omega) (.int .u8 (c.toNat : Int))
        have hs4 := h4.setCell (p := ⟨gx, k, none⟩) (by show w.heap.size ≤ gx; omega) (.int .u8 (c.toNat : Int))
        rw [hc] at hbyte
        obtain ⟨xa, hxa⟩ : ∃ x, at8 S a = x := ⟨_, rfl⟩
        rw [hxa] at hbyte hch
        simp only [Int.cast_ofNat_Int] at hbyte
        have H := Lib.hid (And.intro hs1 (And.intro hs2 (And.intro hs3 hs4)))
        clear hs1 hs2 hs3 hs4 h1 h2 h3 h4 hx hx2 hc hxa hka
        go_wp2
        go_roundw
        case rel => exact ⟨k + 1, by omega, by go_num, H.out.1, H.out.2.1, H.out.2.2.1, H.out.2.2.2⟩
        case measure => simp [intOf]; omega
      · have hmod : (k : Int) % 4 = 2 := by omega
        have hbyte := byteI (at8 S a) 256
        have hx := bytes8_get S a 2 ha (by omega)
        obtain ⟨c, hc⟩ : ∃ c, UInt8.ofNat ((at8 S a).toNat / 256 % 256) = c := ⟨_, rfl⟩
        have hx2 : (bytes8 S)[k]? = some c := by rw [← hc, ← hx, hka]
        have hs1 := h1.set k (.int .u8 (c.toNat : Int))
        rw [brow_set S hlt c hx2] at hs1
        have hs2 := h2.far (p := ⟨gx, k, none⟩) (by show gk + 1 ≠ gx; omega) (.int .u8 (c.toNat : Int))
        have hs3 := h3.far (p := ⟨gx, k, none⟩) (by show w.heap.size ≠ gx; omega) (.int .u8 (c.toNat : Int))
        have hs4 := h4.setCell (p := ⟨gx, k, none⟩) (by show w.heap.size ≤ gx; omega) (.int .u8 (c.toNat : Int))
        rw [hc] at hbyte
        obtain ⟨xa, hxa⟩ : ∃ x, at8 S a = x := ⟨_, rfl⟩
        rw [hxa] at hbyte hch
        simp only [Int.cast_ofNat_Int] at hbyte
        have H := Lib.hid (And.intro hs1 (And.intro hs2 (And.intro hs3 hs4)))
        clear hs1 hs2 hs3 hs4 h1 h2 h3 h4 hx hx2 hc hxa hka
        go_wp2
        go_roundw
        case rel => exact ⟨k + 1, by omega, by go_num, H.out.1, H.out.2.1, H.out.2.2.1, H.out.2.2.2⟩
        case measure => simp [intOf]; omega
      · have hmod : (k : Int) % 4 = 3 := by omega
        have hbyte := byteI (at8 S a) 1
        have hx := bytes8_get S a 3 ha (by omega)
        obtain ⟨c, hc⟩ : ∃ c, UInt8.ofNat ((at8 S a).toNat / 1 % 256) = c := ⟨_, rfl⟩
        have hx2 : (bytes8 S)[k]? = some c := by rw [← hc, ← hx, hka]
        have hs1 := h1.set k (.int .u8 (c.toNat : Int))
        rw [brow_set S hlt c hx2] at hs1
        have hs2 := h2.far (p := ⟨gx, k, none⟩) (by show gk + 1 ≠ gx; omega) (.int .u8 (c.toNat : Int))
        have hs3 := h3.far (p := ⟨gx, k, none⟩) (by show w.heap.size ≠ gx; omega) (.int .u8 (c.toNat : Int))
        have hs4 := h4.setCell (p := ⟨gx, k, none⟩) (by show w.heap.size ≤ gx; omega) (.int .u8 (c.toNat : Int))
        rw [hc] at hbyte
        obtain ⟨xa, hxa⟩ : ∃ x, at8 S a = x := ⟨_, rfl⟩
        rw [hxa] at hbyte hch
        replace hbyte : (xa.toNat : Int) % 256 = (c.toNat : Int) := by have h := hbyte; omega
        have H := Lib.hid (And.intro hs1 (And.intro hs2 (And.intro hs3 hs4)))
        clear hs1 hs2 hs3 hs4 h1 h2 h3 h4 hx hx2 hc hxa hka
        go_wp2
        go_roundw
        case rel => exact ⟨k + 1, by omega, by go_num, H.out.1, H.out.2.1, H.out.2.2.1, H.out.2.2.2⟩
        case measure => simp [intOf]; omega
    · have hk2 : k = 32 := by omega
      rw [hk2] at h1
      have hge : 32 ≤ k := by omega
      have HV := Lib.hid (And.intro h1 (And.intro h3 h4))
      clear hk2 hlt hk h1 h2 h3 h4
      go_wp2
      exact HX.out _ _ _ _ _ _ _ _ _ _ _ _ _ _ _ _ _ _ _ _ _ _ _ _ _ _ _ _ _ _ _ _ _ _ _ _ HV.out.1 HV.out.2.1 HV.out.2.2
end Go.Proofs.YtlmbijhkpgolaaaGreatDoor
