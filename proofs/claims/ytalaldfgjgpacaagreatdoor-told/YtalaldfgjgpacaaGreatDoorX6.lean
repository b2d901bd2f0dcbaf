import Derived.Test.YtalaldfgjgpacaaGreatDoorHAB
import Derived.Test.YtalaldfgjgpacaaGreatDoorHAW
import Derived.Deep.AppendLies
import Derived.Deep.RegionWith
import Derived.Deep.RegionHeld3
import Derived.Deep.DeepCutAuto
import Derived.BigRegion
namespace Go.Proofs.YtalaldfgjgpacaaGreatDoor
set_option linter.unusedVariables false
set_option linter.unusedSimpArgs false
open Go.RowKit
attribute [local go_sem ↓] Go.wp_at_zero Go.wp_at_succ

set_option maxRecDepth 1000000 in
set_option maxHeartbeats 8000000 in
/-- An event is written behind the others. -/
theorem ev_region {w4 : World} {m : CM} {t : CS} {r ob : Nat} {kd r0 t0 a0 b0 c0 c it v : Int} {s0 : ByteArray} (hC : ClAt w4 m t) (hr : r < t.n) (hO : OpAt w4 ob kd r0 t0 a0 b0 c0 s0) (hK9 : t.K r r < 9) (hel : t.evs.length ≤ 1000)
    (K : Act → World → Prop) (Q' : Exit → Act → World → Prop) (a2 a3 a4 a6 a10 a11 a12 a13 a14 a15 a16 a17 a18 a19 a20 a21 a22 a23 a24 a25 a26 a27 a28 a29 a30 a31 a32 a33 a34 a35 a36 a37 a38 a39 a40 a41 a42 a43 a44 a45 a46 a47 a48 a49 a50 a51 a52 a53 a54 a55 a56 a57 a58 a59 a60 a61 a62 a63 a64 a65 a66 a67 a68 a69 a70 a71 a72 a73 a74 a75 a76 a77 a78 a79 a80 a81 a82 a83 a84 a85 a86 a87 a88 a89 a90 a91 a92 a93 a94 a95 a96 a97 a98 a99 a100 a101 a102 a103 a104 a105 a106 a107 a108 a109 a110 a111 a112 a113 a114 a115 a116 a117 a118 a119 a120 a121 a122 a123 a124 a125 a126 a127 a128 a129 a130 a131 a132 a133 a134 a135 a136 a137 a138 a139 a140 a141 a142 a143 a144 a145 a146 a147 a148 a149 a150 a151 a152 a153 a154 a155 a156 a157 a158 a159 a160 a161 a162 a163 a164 a165 a166 a167 a168 a169 a170 a171 a172 a173 a174 a175 a176 a177 a178 a179 a180 a181 a182 a183 a184 a185 a186 a187 a188 a189 a190 a191 a192 a193 a194 a195 a196 a197 a198 a199 a200 a201 a202 a203 a204 a205 a206 a207 a208 a209 a210 a211 a212 a213 a214 a215 a216 a217 a218 a219 a220 a221 a222 a223 a224 a225 a226 a227 a228 a229 a230 a231 a232 a233 : Value)
    (hK : ∀ (v165 v166 v167 v168 v169 v170 v171 v172 v173 v174 v175 v176 v177 v178 v179 v180 v181 v182 v183 v184 v185 v186 v187 v188 v189 v190 v191 v192 v193 v194 v195 v196 v197 v198 v199 : Value) (wx : World), (∃ m6, Moved w4 wx m m6 { t with evs := t.evs ++ [⟨r, t.K r r + 1, kd, c, it, v, t.K r⟩] }) → K ⟨#[.pointer (some ⟨m.cb, 0, none⟩), .int .i64 r, a2, a3, a4, .pointer (some ⟨ob, 0, none⟩), a6, .int .i64 c, .int .i64 it, .int .i64 v, a10, a11, a12, a13, a14, a15, a16, a17, a18, a19, a20, a21, a22, a23, a24, a25, a26, a27, a28, a29, a30, a31, a32, a33, a34, a35, a36, a37, a38, a39, a40, a41, a42, a43, a44, a45, a46, a47, a48, a49, a50, a51, a52, a53, a54, a55, a56, a57, a58, a59, a60, a61, a62, a63, a64, a65, a66, a67, a68, a69, a70, a71, a72, a73, a74, a75, a76, a77, a78, a79, a80, a81, a82, a83, a84, a85, a86, a87, a88, a89, a90, a91, a92, a93, a94, a95, a96, a97, a98, a99, a100, a101, a102, a103, a104, a105, a106, a107, a108, a109, a110, a111, a112, a113, a114, a115, a116, a117, a118, a119, a120, a121, a122, a123, a124, a125, a126, a127, a128, a129, a130, a131, a132, a133, a134, a135, a136, a137, a138, a139, a140, a141, a142, a143, a144, a145, a146, a147, a148, a149, a150, a151, a152, a153, a154, a155, a156, a157, a158, a159, a160, a161, a162, a163, a164, v165, v166, v167, v168, v169, v170, v171, v172, v173, v174, v175, v176, v177, v178, v179, v180, v181, v182, v183, v184, v185, v186, v187, v188, v189, v190, v191, v192, v193, v194, v195, v196, v197, v198, v199, a200, a201, a202, a203, a204, a205, a206, a207, a208, a209, a210, a211, a212, a213, a214, a215, a216, a217, a218, a219, a220, a221, a222, a223, a224, a225, a226, a227, a228, a229, a230, a231, a232, a233], []⟩ wx) :
    Code.wp Tryz.prog ((Tryz.f63.body.bind (findR 24)).getD .skip) (Exit.then K Q') ⟨#[.pointer (some ⟨m.cb, 0, none⟩), .int .i64 r, a2, a3, a4, .pointer (some ⟨ob, 0, none⟩), a6, .int .i64 c, .int .i64 it, .int .i64 v, a10, a11, a12, a13, a14, a15, a16, a17, a18, a19, a20, a21, a22, a23, a24, a25, a26, a27, a28, a29, a30, a31, a32, a33, a34, a35, a36, a37, a38, a39, a40, a41, a42, a43, a44, a45, a46, a47, a48, a49, a50, a51, a52, a53, a54, a55, a56, a57, a58, a59, a60, a61, a62, a63, a64, a65, a66, a67, a68, a69, a70, a71, a72, a73, a74, a75, a76, a77, a78, a79, a80, a81, a82, a83, a84, a85, a86, a87, a88, a89, a90, a91, a92, a93, a94, a95, a96, a97, a98, a99, a100, a101, a102, a103, a104, a105, a106, a107, a108, a109, a110, a111, a112, a113, a114, a115, a116, a117, a118, a119, a120, a121, a122, a123, a124, a125, a126, a127, a128, a129, a130, a131, a132, a133, a134, a135, a136, a137, a138, a139, a140, a141, a142, a143, a144, a145, a146, a147, a148, a149, a150, a151, a152, a153, a154, a155, a156, a157, a158, a159, a160, a161, a162, a163, a164, a165, a166, a167, a168, a169, a170, a171, a172, a173, a174, a175, a176, a177, a178, a179, a180, a181, a182, a183, a184, a185, a186, a187, a188, a189, a190, a191, a192, a193, a194, a195, a196, a197, a198, a199, a200, a201, a202, a203, a204, a205, a206, a207, a208, a209, a210, a211, a212, a213, a214, a215, a216, a217, a218, a219, a220, a221, a222, a223, a224, a225, a226, a227, a228, a229, a230, a231, a232, a233], []⟩ w4 := by
  conv => arg 2; whnf
  have hn3 := hC.n3
  obtain ⟨kk, hkk⟩ : ∃ kk, kk = t.K r r := ⟨_, rfl⟩
  rw [← hkk] at hK9
  have hwr : IntKind.i64.wrap ((kk : Int) + 1) = (kk : Int) + 1 := by rw [IntKind.wrap_i64]; omega
  have HKK := hid hkk
  obtain ⟨ea, ec, hev', hevl⟩ := ownsRow_form hC.ev.o
  have HEV := hid hev'
  have c4d : ClAt w4.drew m t := hC.blw ((Blw.rfl w4).dr)
  have o4d : OpAt w4.drew ob kd r0 t0 a0 b0 c0 s0 := hO.on (show w4.drew.heap[ob]? = w4.heap[ob]? from rfl)
  have HCP := hid (fun (wx : World) (hx : wx.heap[m.g r]? = some (.cells (intsV (vecL t.n (t.K r))) 3)) => copied_any (vecL t.n (t.K r)) t.n (m.g r) wx hC.n1 hn3 (vecL_len _ _) hx)
  have S4 := hid ((Sees.of c4d hr o4d).cells hr HKK.out)
  have q4 := (Sees.of c4d hr o4d).c4 HEV.out
  have C4d := hid (And.intro c4d o4d)
  have C4 := hid hC
  have hr0 : (0 : Int) ≤ (r : Int) := Int.natCast_nonneg _
  have hr1 : (r : Int) < (t.n : Int) := by omega
  obtain ⟨i0, hi0', hz0, hz1, hz2⟩ := info_parts infoEv
  clear c4d o4d hev' hkk hC hO
  have HKF := hid hK
  clear hK
  have L4 : Hid ((fun w' => w'.cell? ⟨m.cb, 3, none⟩ = some (.slice (some ⟨m.kb, 0, none⟩) t.n m.ck) ∧ w'.cell? ⟨m.kb, r, none⟩ = some (.slice (some ⟨m.g r, 0, none⟩) t.n t.n) ∧ w'.cell? ⟨m.g r, r, none⟩ = some (.int .i64 kk) ∧ w'.cell? ⟨ob, 0, none⟩ = some (.int .i64 kd) ∧ w'.cell? ⟨m.cb, 4, none⟩ = some (.slice ea t.evs.length ec)) w4.drew) := ⟨S4.out.1, S4.out.2.1, S4.out.2.2.1, S4.out.2.2.2, q4⟩
  refine wp_region_noPanic ?_
  refine wp_region_L (S := (fun w' => w'.cell? ⟨m.cb, 3, none⟩ = some (.slice (some ⟨m.kb, 0, none⟩) t.n m.ck) ∧ w'.cell? ⟨m.kb, r, none⟩ = some (.slice (some ⟨m.g r, 0, none⟩) t.n t.n) ∧ w'.cell? ⟨m.g r, r, none⟩ = some (.int .i64 kk) ∧ w'.cell? ⟨ob, 0, none⟩ = some (.int .i64 kd) ∧ w'.cell? ⟨m.cb, 4, none⟩ = some (.slice ea t.evs.length ec))) (L := 35) (by kernel_rfl) ?_
  clear q4
  refine anyL_take (i := 0) (v := ?v0) rfl (by kernel_rfl) (by kernel_rfl) (by kernel_rfl) (by kernel_rfl) (fun _ _ _ h => h) L4.out (Or.inl ⟨by rfl, ?hy0⟩) ?rest0
  case hy0 => (intro w hSw; (try dsimp only at hSw); go_simp; try with_reducible rfl)
  try simp only [Act.put, List.setIfInBounds_toArray, List.set_cons_zero, List.set_cons_succ]
  refine anyL_take (i := 1) (v := ?v1) rfl (by kernel_rfl) (by kernel_rfl) (by kernel_rfl) (by kernel_rfl) (fun _ _ _ h => h) L4.out (Or.inl ⟨by rfl, ?hy1⟩) ?rest1
  case hy1 => (intro w hSw; (try dsimp only at hSw); go_simp; try with_reducible rfl)
  try simp only [Act.put, List.setIfInBounds_toArray, List.set_cons_zero, List.set_cons_succ]
  refine anyL_take (i := 2) (v := ?v2) rfl (by kernel_rfl) (by kernel_rfl) (by kernel_rfl) (by kernel_rfl) (fun _ _ _ h => h) L4.out (Or.inl ⟨by rfl, ?hy2⟩) ?rest2
  case hy2 => (intro w hSw; (try dsimp only at hSw); go_simp; try with_reducible rfl)
  try simp only [Act.put, List.setIfInBounds_toArray, List.set_cons_zero, List.set_cons_succ]
  refine anyL_take (i := 3) (v := ?v3) rfl (by kernel_rfl) (by kernel_rfl) (by kernel_rfl) (by kernel_rfl) (fun _ _ _ h => h) L4.out (Or.inl ⟨by rfl, ?hy3⟩) ?rest3
  case hy3 => (intro w hSw; (try dsimp only at hSw); go_simp; try with_reducible rfl)
  try simp only [Act.put, List.setIfInBounds_toArray, List.set_cons_zero, List.set_cons_succ]
  refine anyL_take (i := 4) (v := ?v4) rfl (by kernel_rfl) (by kernel_rfl) (by kernel_rfl) (by kernel_rfl) (fun _ _ _ h => h) L4.out (Or.inl ⟨by rfl, ?hy4⟩) ?rest4
  case hy4 => (intro w hSw; (try dsimp only at hSw); go_simp; try with_reducible rfl)
  try simp only [Act.put, List.setIfInBounds_toArray, List.set_cons_zero, List.set_cons_succ]
  refine anyL_take (i := 5) (v := ?v5) rfl (by kernel_rfl) (by kernel_rfl) (by kernel_rfl) (by kernel_rfl) (fun _ _ _ h => h) L4.out (Or.inl ⟨by rfl, ?hy5⟩) ?rest5
  case hy5 => (intro w hSw; (try dsimp only at hSw); go_simp; try with_reducible rfl)
  try simp only [Act.put, List.setIfInBounds_toArray, List.set_cons_zero, List.set_cons_succ]
  refine anyL_take (i := 6) (v := ?v6) rfl (by kernel_rfl) (by kernel_rfl) (by kernel_rfl) (by kernel_rfl) (fun _ _ _ h => h) L4.out (Or.inl ⟨by rfl, ?hy6⟩) ?rest6
  case hy6 => (intro w hSw; (try dsimp only at hSw); go_simp; try with_reducible rfl)
  try simp only [Act.put, List.setIfInBounds_toArray, List.set_cons_zero, List.set_cons_succ]
  refine anyL_take (i := 7) (v := ?v7) rfl (by kernel_rfl) (by kernel_rfl) (by kernel_rfl) (by kernel_rfl) (fun _ _ _ h => h) L4.out (Or.inl ⟨by rfl, ?hy7⟩) ?rest7
  case hy7 => (intro w hSw; (try dsimp only at hSw); go_simp; try with_reducible rfl)
  try simp only [Act.put, List.setIfInBounds_toArray, List.set_cons_zero, List.set_cons_succ]
  refine anyL_take (i := 8) (v := ?v8) rfl (by kernel_rfl) (by kernel_rfl) (by kernel_rfl) (by kernel_rfl) (fun _ _ _ h => h) L4.out (Or.inl ⟨by rfl, ?hy8⟩) ?rest8
  case hy8 => (intro w hSw; (try dsimp only at hSw); go_simp; try with_reducible rfl)
  try simp only [Act.put, List.setIfInBounds_toArray, List.set_cons_zero, List.set_cons_succ]
  refine anyL_take (i := 9) (v := ?v9) rfl (by kernel_rfl) (by kernel_rfl) (by kernel_rfl) (by kernel_rfl) (fun _ _ _ h => h) L4.out (Or.inl ⟨by rfl, ?hy9⟩) ?rest9
  case hy9 => (intro w hSw; (try dsimp only at hSw); go_simp; try with_reducible rfl)
  try simp only [Act.put, List.setIfInBounds_toArray, List.set_cons_zero, List.set_cons_succ]
  refine anyL_take (i := 10) (v := ?v10) rfl (by kernel_rfl) (by kernel_rfl) (by kernel_rfl) (by kernel_rfl) (fun _ _ _ h => h) L4.out (Or.inl ⟨by rfl, ?hy10⟩) ?rest10
  case hy10 => (intro w hSw; (try dsimp only at hSw); go_simp; try with_reducible rfl)
  try simp only [Act.put, List.setIfInBounds_toArray, List.set_cons_zero, List.set_cons_succ]
  refine anyL_take (i := 11) (v := ?v11) rfl (by kernel_rfl) (by kernel_rfl) (by kernel_rfl) (by kernel_rfl) (fun _ _ _ h => h) L4.out (Or.inl ⟨by rfl, ?hy11⟩) ?rest11
  case hy11 => (intro w hSw; (try dsimp only at hSw); go_simp; try with_reducible rfl)
  try simp only [Act.put, List.setIfInBounds_toArray, List.set_cons_zero, List.set_cons_succ]
  refine anyL_take (i := 12) (v := ?v12) rfl (by kernel_rfl) (by kernel_rfl) (by kernel_rfl) (by kernel_rfl) (fun _ _ _ h => h) L4.out (Or.inl ⟨by rfl, ?hy12⟩) ?rest12
  case hy12 => (intro w hSw; (try dsimp only at hSw); go_simp; try with_reducible rfl)
  try simp only [Act.put, List.setIfInBounds_toArray, List.set_cons_zero, List.set_cons_succ]
  refine anyL_take (i := 13) (v := ?v13) rfl (by kernel_rfl) (by kernel_rfl) (by kernel_rfl) (by kernel_rfl) (fun _ _ _ h => h) L4.out (Or.inl ⟨by rfl, ?hy13⟩) ?rest13
  case hy13 => (intro w hSw; (try dsimp only at hSw); go_simp; try with_reducible rfl)
  try simp only [Act.put, List.setIfInBounds_toArray, List.set_cons_zero, List.set_cons_succ]
  refine anyL_take (i := 14) (v := ?v14) rfl (by kernel_rfl) (by kernel_rfl) (by kernel_rfl) (by kernel_rfl) (fun _ _ _ h => h) L4.out (Or.inl ⟨by rfl, ?hy14⟩) ?rest14
  case hy14 => (intro w hSw; (try dsimp only at hSw); go_simp; try with_reducible rfl)
  try simp only [Act.put, List.setIfInBounds_toArray, List.set_cons_zero, List.set_cons_succ]
  refine anyL_take (i := 15) (v := ?v15) rfl (by kernel_rfl) (by kernel_rfl) (by kernel_rfl) (by kernel_rfl) (fun _ _ _ h => h) L4.out (Or.inl ⟨by rfl, ?hy15⟩) ?rest15
  case hy15 => (intro w hSw; (try dsimp only at hSw); go_simp; try with_reducible rfl)
  try simp only [Act.put, List.setIfInBounds_toArray, List.set_cons_zero, List.set_cons_succ]
  refine anyL_take (i := 16) (v := ?v16) rfl (by kernel_rfl) (by kernel_rfl) (by kernel_rfl) (by kernel_rfl) (fun _ _ _ h => h) L4.out (Or.inl ⟨by rfl, ?hy16⟩) ?rest16
  case hy16 => (intro w hSw; (try dsimp only at hSw); go_simp; try with_reducible rfl)
  try simp only [Act.put, List.setIfInBounds_toArray, List.set_cons_zero, List.set_cons_succ]
  refine anyL_take (i := 17) (v := ?v17) rfl (by kernel_rfl) (by kernel_rfl) (by kernel_rfl) (by kernel_rfl) (fun _ _ _ h => h) L4.out (Or.inl ⟨by rfl, ?hy17⟩) ?rest17
  case hy17 => (intro w hSw; (try dsimp only at hSw); go_simp; try with_reducible rfl)
  try simp only [Act.put, List.setIfInBounds_toArray, List.set_cons_zero, List.set_cons_succ]
  refine anyL_take (i := 18) (v := ?v18) rfl (by kernel_rfl) (by kernel_rfl) (by kernel_rfl) (by kernel_rfl) (fun _ _ _ h => h) L4.out (Or.inl ⟨by rfl, ?hy18⟩) ?rest18
  case hy18 => (intro w hSw; (try dsimp only at hSw); go_simp; try with_reducible rfl)
  try simp only [Act.put, List.setIfInBounds_toArray, List.set_cons_zero, List.set_cons_succ]
  refine anyL_take (i := 19) (v := ?v19) rfl (by kernel_rfl) (by kernel_rfl) (by kernel_rfl) (by kernel_rfl) (fun _ _ _ h => h) L4.out (Or.inl ⟨by rfl, ?hy19⟩) ?rest19
  case hy19 => (intro w hSw; (try dsimp only at hSw); go_simp; try with_reducible rfl)
  try simp only [Act.put, List.setIfInBounds_toArray, List.set_cons_zero, List.set_cons_succ]
  refine anyL_take (i := 20) (v := ?v20) rfl (by kernel_rfl) (by kernel_rfl) (by kernel_rfl) (by kernel_rfl) (fun _ _ _ h => h) L4.out (Or.inl ⟨by rfl, ?hy20⟩) ?rest20
  case hy20 => (intro w hSw; (try dsimp only at hSw); go_simp; try with_reducible rfl)
  try simp only [Act.put, List.setIfInBounds_toArray, List.set_cons_zero, List.set_cons_succ]
  refine anyL_take (i := 21) (v := ?v21) rfl (by kernel_rfl) (by kernel_rfl) (by kernel_rfl) (by kernel_rfl) (fun _ _ _ h => h) L4.out (Or.inl ⟨by rfl, ?hy21⟩) ?rest21
  case hy21 => (intro w hSw; (try dsimp only at hSw); go_simp; try with_reducible rfl)
  try simp only [Act.put, List.setIfInBounds_toArray, List.set_cons_zero, List.set_cons_succ]
  refine anyL_take (i := 22) (v := ?v22) rfl (by kernel_rfl) (by kernel_rfl) (by kernel_rfl) (by kernel_rfl) (fun _ _ _ h => h) L4.out (Or.inl ⟨by rfl, ?hy22⟩) ?rest22
  case hy22 => (intro w hSw; (try dsimp only at hSw); go_simp; try with_reducible rfl)
  try simp only [Act.put, List.setIfInBounds_toArray, List.set_cons_zero, List.set_cons_succ]
  refine anyL_take (i := 23) (v := ?v23) rfl (by kernel_rfl) (by kernel_rfl) (by kernel_rfl) (by kernel_rfl) (fun _ _ _ h => h) L4.out (Or.inl ⟨by rfl, ?hy23⟩) ?rest23
  case hy23 => (intro w hSw; (try dsimp only at hSw); go_simp; try with_reducible rfl)
  try simp only [Act.put, List.setIfInBounds_toArray, List.set_cons_zero, List.set_cons_succ]
  refine anyL_take (i := 24) (v := ?v24) rfl (by kernel_rfl) (by kernel_rfl) (by kernel_rfl) (by kernel_rfl) (fun _ _ _ h => h) L4.out (Or.inl ⟨by rfl, ?hy24⟩) ?rest24
  case hy24 => (intro w hSw; (try dsimp only at hSw); go_simp; try with_reducible rfl)
  try simp only [Act.put, List.setIfInBounds_toArray, List.set_cons_zero, List.set_cons_succ]
  refine anyL_take (i := 25) (v := ?v25) rfl (by kernel_rfl) (by kernel_rfl) (by kernel_rfl) (by kernel_rfl) (fun _ _ _ h => h) L4.out (Or.inl ⟨by rfl, ?hy25⟩) ?rest25
  case hy25 => (intro w hSw; (try dsimp only at hSw); go_simp; try with_reducible rfl)
  try simp only [Act.put, List.setIfInBounds_toArray, List.set_cons_zero, List.set_cons_succ]
  refine anyL_take (i := 26) (v := ?v26) rfl (by kernel_rfl) (by kernel_rfl) (by kernel_rfl) (by kernel_rfl) (fun _ _ _ h => h) L4.out (Or.inl ⟨by rfl, ?hy26⟩) ?rest26
  case hy26 => (intro w hSw; (try dsimp only at hSw); go_simp; try with_reducible rfl)
  try simp only [Act.put, List.setIfInBounds_toArray, List.set_cons_zero, List.set_cons_succ]
  refine anyL_take (i := 27) (v := ?v27) rfl (by kernel_rfl) (by kernel_rfl) (by kernel_rfl) (by kernel_rfl) (fun _ _ _ h => h) L4.out (Or.inl ⟨by rfl, ?hy27⟩) ?rest27
  case hy27 => (intro w hSw; (try dsimp only at hSw); go_simp; try with_reducible rfl)
  try simp only [Act.put, List.setIfInBounds_toArray, List.set_cons_zero, List.set_cons_succ]
  refine anyL_take (i := 28) (v := ?v28) rfl (by kernel_rfl) (by kernel_rfl) (by kernel_rfl) (by kernel_rfl) (fun _ _ _ h => h) L4.out (Or.inl ⟨by rfl, ?hy28⟩) ?rest28
  case hy28 => (intro w hSw; (try dsimp only at hSw); go_simp; try with_reducible rfl)
  try simp only [Act.put, List.setIfInBounds_toArray, List.set_cons_zero, List.set_cons_succ]
  refine anyL_one (i := 29) (by kernel_rfl) rfl (fun K' hK' => ?_)
  go_simp
  go_at_call 120
  refine (HCP.out _ (C4d.out.1.ks.kc r hr)).mono ?_
  rintro e w5 ⟨rfl, hg5, b5⟩
  have c5 := C4d.out.1.blw b5
  have o5 := C4d.out.2.on (b5.bk _ (lt_of_blk C4d.out.2.blk))
  have S5 := (Sees.of c5 hr o5).cells hr HKK.out
  have B5a : Blw w5 (w5.alloc (.cells #[.int .i64 r, .int .i64 (kk + 1), .int .i64 kd, .int .i64 c, .int .i64 it, .int .i64 v, .slice (some ⟨w4.heap.size, 0, none⟩) t.n t.n] 149)) := (Blw.rfl w5).al _
  have c5a := c5.blw B5a
  have o5a := o5.on (B5a.bk _ (lt_of_blk o5.blk))
  have q5 := (Sees.of c5 hr o5).c4 HEV.out
  have q5a := (Sees.of c5a hr o5a).c4 HEV.out
  have S5a := (Sees.of c5a hr o5a).cells hr HKK.out
  have L5 : Hid ((fun w' => w'.cell? ⟨m.cb, 3, none⟩ = some (.slice (some ⟨m.kb, 0, none⟩) t.n m.ck) ∧ w'.cell? ⟨m.kb, r, none⟩ = some (.slice (some ⟨m.g r, 0, none⟩) t.n t.n) ∧ w'.cell? ⟨m.g r, r, none⟩ = some (.int .i64 kk) ∧ w'.cell? ⟨ob, 0, none⟩ = some (.int .i64 kd) ∧ w'.cell? ⟨m.cb, 4, none⟩ = some (.slice ea t.evs.length ec)) w5) := ⟨S5.1, S5.2.1, S5.2.2.1, S5.2.2.2, q5⟩
  have L5a : Hid ((fun w' => w'.cell? ⟨m.cb, 3, none⟩ = some (.slice (some ⟨m.kb, 0, none⟩) t.n m.ck) ∧ w'.cell? ⟨m.kb, r, none⟩ = some (.slice (some ⟨m.g r, 0, none⟩) t.n t.n) ∧ w'.cell? ⟨m.g r, r, none⟩ = some (.int .i64 kk) ∧ w'.cell? ⟨ob, 0, none⟩ = some (.int .i64 kd) ∧ w'.cell? ⟨m.cb, 4, none⟩ = some (.slice ea t.evs.length ec)) (w5.alloc (.cells #[.int .i64 r, .int .i64 (kk + 1), .int .i64 kd, .int .i64 c, .int .i64 it, .int .i64 v, .slice (some ⟨w4.heap.size, 0, none⟩) t.n t.n] 149))) := ⟨S5a.1, S5a.2.1, S5a.2.2.1, S5a.2.2.2, q5a⟩
  have C5 := hid (And.intro c5a (And.intro o5a (And.intro (And.intro hg5 b5) B5a)))
  have H5n := hid (heap_alloc_new w5 (.cells #[.int .i64 r, .int .i64 (kk + 1), .int .i64 kd, .int .i64 c, .int .i64 it, .int .i64 v, .slice (some ⟨w4.heap.size, 0, none⟩) t.n t.n] 149))
  clear c5 o5 b5 hg5 B5a c5a o5a S5 S5a q5 q5a
  go_wp2_with fail
  refine hK'.out _ _ (fun _ => L5.out) ?_
  clear hK' K'
  try simp only [Act.put, List.setIfInBounds_toArray, List.set_cons_zero, List.set_cons_succ]
  refine anyL_take (i := 30) (v := ?v30) rfl (by kernel_rfl) (by kernel_rfl) (by kernel_rfl) (by kernel_rfl) (fun _ _ _ h => h) L5.out (Or.inl ⟨by rfl, ?hy30⟩) ?rest30
  case hy30 => (intro w hSw; (try dsimp only at hSw); go_simp; try with_reducible rfl)
  try simp only [Act.put, List.setIfInBounds_toArray, List.set_cons_zero, List.set_cons_succ]
  refine anyL_one (i := 31) (by kernel_rfl) rfl (fun K' hK' => ?_)
  go_simp
  refine hK'.out _ _ (fun _ => L5a.out) ?_
  clear hK' K'
  try simp only [Act.put, List.setIfInBounds_toArray, List.set_cons_zero, List.set_cons_succ]
  refine anyL_one (i := 32) (by kernel_rfl) rfl (fun K' hK' => ?_)
  refine step_append_lies _ (by rfl) _ _ _ (by rfl) 0 149 i0 _ 7 72 Tryz.underlying32 hi0' hz0 hz1 hz2 rfl (by omega) m.ev t.evs.length (flatC m.ef t.evs.length) (by rw [HEV.out]; rfl) C5.out.1.ev.o ⟨w5.heap.size, 0, none⟩ 1 1 [.int .i64 r, .int .i64 (kk + 1), .int .i64 kd, .int .i64 c, .int .i64 it, .int .i64 v, .slice (some ⟨w4.heap.size, 0, none⟩) t.n t.n] (by rfl) (by rfl) (World.news_of_block (t := 149) (fr := (0, 0)) H5n.out) (by simp [Value.oneCell']) (by omega) (by unfold maxLen; omega) (by omega) (by omega) (w5.heap.size + 1) (by simp) ?_
  intro g6 cap6 w6 hown6 hgrow6 hat6 hlt6
  have S6 := (Sees.grown C5.out.1 hr C5.out.2.1 hgrow6).cells hr HKK.out
  have q6 := (Sees.grown C5.out.1 hr C5.out.2.1 hgrow6).c4 HEV.out
  have L6 : Hid ((fun w' => w'.cell? ⟨m.cb, 3, none⟩ = some (.slice (some ⟨m.kb, 0, none⟩) t.n m.ck) ∧ w'.cell? ⟨m.kb, r, none⟩ = some (.slice (some ⟨m.g r, 0, none⟩) t.n t.n) ∧ w'.cell? ⟨m.g r, r, none⟩ = some (.int .i64 kk) ∧ w'.cell? ⟨ob, 0, none⟩ = some (.int .i64 kd) ∧ w'.cell? ⟨m.cb, 4, none⟩ = some (.slice ea t.evs.length ec)) w6) := ⟨S6.1, S6.2.1, S6.2.2.1, S6.2.2.2, q6⟩
  have fz6 := blk_frozen (Sees.grown C5.out.1 hr C5.out.2.1 hgrow6).row
  have G6 := hid (And.intro hown6 (And.intro hgrow6 hat6))
  clear hown6 hgrow6 hat6 S6
  refine hK'.out _ _ (fun _ => L6.out) ?_
  clear hK' K'
  try simp only [Act.put, List.setIfInBounds_toArray, List.set_cons_zero, List.set_cons_succ]
  refine anyL_one (i := 33) (by kernel_rfl) rfl (fun K' hK' => ?_)
  go_simp
  refine hK'.out _ _ (fun _ => L6.out) ?_
  clear hK' K'
  try simp only [Act.put, List.setIfInBounds_toArray, List.set_cons_zero, List.set_cons_succ]
  refine anyL_one (i := 34) (by kernel_rfl) rfl (fun K' hK' => ?_)
  go_simp
  refine hK'.out _ _ (fun _ => L6.out) ?_
  clear hK' K'
  try simp only [Act.put, List.setIfInBounds_toArray, List.set_cons_zero, List.set_cons_succ]
  refine anyL_one (i := 35) (by kernel_rfl) rfl (fun K' hK' => ?_)
  go_simp
  refine hK'.out _ _ (fun h => absurd rfl h) ?_
  clear hK' K'
  try simp only [Act.put, List.setIfInBounds_toArray, List.set_cons_zero, List.set_cons_succ]
  refine anyL_done (by kernel_rfl) ?_ _
  refine NoPanic.normal ?_
  all_goals
      try go_wp2_with fail
      refine HKF.out _ _ _ _ _ _ _ _ _ _ _ _ _ _ _ _ _ _ _ _ _ _ _ _ _ _ _ _ _ _ _ _ _ _ _ _ ?_
      · have b5 : Blw w4 (w5.alloc (.cells #[.int .i64 r, .int .i64 (kk + 1), .int .i64 kd, .int .i64 c, .int .i64 it, .int .i64 v, .slice (some ⟨w4.heap.size, 0, none⟩) t.n t.n] 149)) := ((Blw.rfl w4).dr.tr C5.out.2.2.1.2).tr C5.out.2.2.2
        have M1 : Moved w4 (w5.alloc (.cells #[.int .i64 r, .int .i64 (kk + 1), .int .i64 kd, .int .i64 c, .int .i64 it, .int .i64 v, .slice (some ⟨w4.heap.size, 0, none⟩) t.n t.n] 149)) m m t := ⟨C5.out.1, b5.kp _, fun k hk => .inl hk, rfl, fun k hk => hk⟩
        have hfz : FrzV m.own (w5.alloc (.cells #[.int .i64 r, .int .i64 (kk + 1), .int .i64 kd, .int .i64 c, .int .i64 it, .int .i64 v, .slice (some ⟨w4.heap.size, 0, none⟩) t.n t.n] 149)) t.n (.slice (some ⟨w4.heap.size, 0, none⟩) t.n t.n) (t.K r) :=
          ⟨w4.heap.size, rfl, fun hown => Nat.lt_irrefl _ (C4.out.lim _ hown), C5.out.2.2.2.bk' C5.out.2.2.1.1⟩
        have hgo := G6.out.1
        have ec : [.int .i64 r, .int .i64 (kk + 1), .int .i64 kd, .int .i64 c, .int .i64 it, .int .i64 v, .slice (some ⟨w4.heap.size, 0, none⟩) t.n t.n] = evC ⟨r, t.K r r + 1, kd, c, it, v, t.K r⟩ (.slice (some ⟨w4.heap.size, 0, none⟩) t.n t.n) := by rw [← HKK.out]; rfl
        rw [ec] at hgo
        exact ⟨_, M1.tr (ClAt.ev_push C5.out.1 G6.out.2.1 hfz hgo (G6.out.2.2.imp id (fun e => by rw [e]; simp)))⟩
end Go.Proofs.YtalaldfgjgpacaaGreatDoor
