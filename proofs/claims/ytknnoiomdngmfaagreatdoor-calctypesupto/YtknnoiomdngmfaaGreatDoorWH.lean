import Derived.Test.YtknnoiomdngmfaaGreatDoorUV
import Derived.Test.YtknnoiomdngmfaaGreatDoorTE
set_option maxRecDepth 100000
set_option maxHeartbeats 4000000
namespace Go.Proofs.YtknnoiomdngmfaaGreatDoor.Kit
open Go.RowKit Go.Shelf Go.Deep
set_option linter.unusedVariables false
set_option linter.unusedSimpArgs false
attribute [local go_sem] run_store_func
noncomputable def tail5 : Code := sq2 rest5
theorem cut1 {P : Program} {Q : Exit → Act → World → Prop} {a : Act} {w : World} {c0 C : Code} (h : ∀ C', C' = C → (c0.seq C').wp P Q a w) : (c0.seq C).wp P Q a w := h C rfl
def actT (x0 y : Nat) (ok : Bool) (t0 t1 t2 t3 t5 t6 t7 t8 t9 t10 t11 t13 t14 t16 t17 t18 t19 t20 t21 t22 t23 t24 t25 t26 t27 t28 t29 t30 t31 t32 t33 t34 t35 t36 t37 t38 t39 t40 t41 t42 t43 t44 t45 t46 t47 t48 t49 t50 t51 t52 t53 t54 t55 t56 t57 t58 t59 t60 t61 t62 t63 t64 t65 t66 t67 t68 t69 t70 t71 t72 t73 t74 t75 t76 t77 t78 t79 t80 t81 t82 t83 t84 t85 t86 t87 t88 t89 t90 t91 t92 t93 t94 t95 t96 t97 t98 t99 t100 t101 t102 t103 t104 t105 t106 t107 t108 t109 t110 t111 t112 t113 t114 t115 t116 t117 t118 t119 t120 t121 t122 t123 t124 t125 t126 t127 t128 t129 t130 t131 t132 t133 t134 t135 t136 t137 t138 t139 t140 t141 t142 t143 t144 t145 t146 t147 t148 t149 t150 t151 t152 t153 t154 t155 t156 t157 t158 t159 t160 t161 t162 t163 t164 t165 t166 t167 t168 t169 t170 t171 t172 t173 t174 t175 t176 t177 t178 t179 t180 t181 t182 t183 t184 t185 t186 t187 t188 t189 t190 t191 t192 t193 t194 t195 t196 t197 t198 t199 t200 t201 t202 t203 t204 t205 t206 t207 t208 t209 t210 t211 t212 t213 t214 t215 t216 t217 t218 t219 t220 t221 t222 t223 t224 t225 t226 t227 t228 t229 t230 t231 t232 t233 t234 t235 t236 t237 t238 t239 t240 t241 t242 t243 t244 t245 t246 t247 t248 t249 t250 t251 t252 t253 t254 t255 t256 t257 t258 t259 t260 t261 t262 : Value) : Act := { tmps := #[t0, t1, t2, t3, .pointer (some ⟨x0, 0, none⟩), t5, t6, t7, t8, t9, t10, t11, .pointer (some ⟨y, 0, none⟩), t13, t14, .bool ok, t16, t17, t18, t19, t20, t21, t22, t23, t24, t25, t26, t27, t28, t29, t30, t31, t32, t33, t34, t35, t36, t37, t38, t39, t40, t41, t42, t43, t44, t45, t46, t47, t48, t49, t50, t51, t52, t53, t54, t55, t56, t57, t58, t59, t60, t61, t62, t63, t64, t65, t66, t67, t68, t69, t70, t71, t72, t73, t74, t75, t76, t77, t78, t79, t80, t81, t82, t83, t84, t85, t86, t87, t88, t89, t90, t91, t92, t93, t94, t95, t96, t97, t98, t99, t100, t101, t102, t103, t104, t105, t106, t107, t108, t109, t110, t111, t112, t113, t114, t115, t116, t117, t118, t119, t120, t121, t122, t123, t124, t125, t126, t127, t128, t129, t130, t131, t132, t133, t134, t135, t136, t137, t138, t139, t140, t141, t142, t143, t144, t145, t146, t147, t148, t149, t150, t151, t152, t153, t154, t155, t156, t157, t158, t159, t160, t161, t162, t163, t164, t165, t166, t167, t168, t169, t170, t171, t172, t173, t174, t175, t176, t177, t178, t179, t180, t181, t182, t183, t184, t185, t186, t187, t188, t189, t190, t191, t192, t193, t194, t195, t196, t197, t198, t199, t200, t201, t202, t203, t204, t205, t206, t207, t208, t209, t210, t211, t212, t213, t214, t215, t216, t217, t218, t219, t220, t221, t222, t223, t224, t225, t226, t227, t228, t229, t230, t231, t232, t233, t234, t235, t236, t237, t238, t239, t240, t241, t242, t243, t244, t245, t246, t247, t248, t249, t250, t251, t252, t253, t254, t255, t256, t257, t258, t259, t260, t261, t262], defers := [] }
inductive IsT (x0 y : Nat) (ok : Bool) : Act → Prop where
  | mk {t0 t1 t2 t3 t5 t6 t7 t8 t9 t10 t11 t13 t14 t16 t17 t18 t19 t20 t21 t22 t23 t24 t25 t26 t27 t28 t29 t30 t31 t32 t33 t34 t35 t36 t37 t38 t39 t40 t41 t42 t43 t44 t45 t46 t47 t48 t49 t50 t51 t52 t53 t54 t55 t56 t57 t58 t59 t60 t61 t62 t63 t64 t65 t66 t67 t68 t69 t70 t71 t72 t73 t74 t75 t76 t77 t78 t79 t80 t81 t82 t83 t84 t85 t86 t87 t88 t89 t90 t91 t92 t93 t94 t95 t96 t97 t98 t99 t100 t101 t102 t103 t104 t105 t106 t107 t108 t109 t110 t111 t112 t113 t114 t115 t116 t117 t118 t119 t120 t121 t122 t123 t124 t125 t126 t127 t128 t129 t130 t131 t132 t133 t134 t135 t136 t137 t138 t139 t140 t141 t142 t143 t144 t145 t146 t147 t148 t149 t150 t151 t152 t153 t154 t155 t156 t157 t158 t159 t160 t161 t162 t163 t164 t165 t166 t167 t168 t169 t170 t171 t172 t173 t174 t175 t176 t177 t178 t179 t180 t181 t182 t183 t184 t185 t186 t187 t188 t189 t190 t191 t192 t193 t194 t195 t196 t197 t198 t199 t200 t201 t202 t203 t204 t205 t206 t207 t208 t209 t210 t211 t212 t213 t214 t215 t216 t217 t218 t219 t220 t221 t222 t223 t224 t225 t226 t227 t228 t229 t230 t231 t232 t233 t234 t235 t236 t237 t238 t239 t240 t241 t242 t243 t244 t245 t246 t247 t248 t249 t250 t251 t252 t253 t254 t255 t256 t257 t258 t259 t260 t261 t262 : Value} : IsT x0 y ok (actT x0 y ok t0 t1 t2 t3 t5 t6 t7 t8 t9 t10 t11 t13 t14 t16 t17 t18 t19 t20 t21 t22 t23 t24 t25 t26 t27 t28 t29 t30 t31 t32 t33 t34 t35 t36 t37 t38 t39 t40 t41 t42 t43 t44 t45 t46 t47 t48 t49 t50 t51 t52 t53 t54 t55 t56 t57 t58 t59 t60 t61 t62 t63 t64 t65 t66 t67 t68 t69 t70 t71 t72 t73 t74 t75 t76 t77 t78 t79 t80 t81 t82 t83 t84 t85 t86 t87 t88 t89 t90 t91 t92 t93 t94 t95 t96 t97 t98 t99 t100 t101 t102 t103 t104 t105 t106 t107 t108 t109 t110 t111 t112 t113 t114 t115 t116 t117 t118 t119 t120 t121 t122 t123 t124 t125 t126 t127 t128 t129 t130 t131 t132 t133 t134 t135 t136 t137 t138 t139 t140 t141 t142 t143 t144 t145 t146 t147 t148 t149 t150 t151 t152 t153 t154 t155 t156 t157 t158 t159 t160 t161 t162 t163 t164 t165 t166 t167 t168 t169 t170 t171 t172 t173 t174 t175 t176 t177 t178 t179 t180 t181 t182 t183 t184 t185 t186 t187 t188 t189 t190 t191 t192 t193 t194 t195 t196 t197 t198 t199 t200 t201 t202 t203 t204 t205 t206 t207 t208 t209 t210 t211 t212 t213 t214 t215 t216 t217 t218 t219 t220 t221 t222 t223 t224 t225 t226 t227 t228 t229 t230 t231 t232 t233 t234 t235 t236 t237 t238 t239 t240 t241 t242 t243 t244 t245 t246 t247 t248 t249 t250 t251 t252 t253 t254 t255 t256 t257 t258 t259 t260 t261 t262)
structure Tl5 (S : Nat → Prop) (W : World) (d x0 y : Nat) (nm : ByteArray) (nb : Bool) (t : FT) (ao : Option Addr) (ca : Nat) (w : World) : Prop where
  gr : Gr W w
  z : w.heap[x0]? = some (.cells #[.string ⟨#[]⟩, .bool false, .int .i64 0, .int .i64 0, .int .i64 0, .int .i64 0, .slice none 0 0] 26)
  out : w.heap[y]? = some (.cells #[.string nm, .bool nb, .int .i64 t.kind, .int .i64 t.width, .int .i64 t.id, .int .i64 t.index, .slice ao t.kids.length ca] 26)
  x : W.heap.size ≤ x0
  xy : x0 < y
  ty : TyI S W d t ao ca
theorem tail_put {S : Nat → Prop} {W w w1 w2 : World} {d x0 y b : Nat} {nm : ByteArray} {nb : Bool} {t : FT} {ao : Option Addr} {ca : Nat} {v : Value} (h : Tl5 S W d x0 y nm nb t ao ca w) (g1 : Gr w w1) (hT : Tr w1 (d + 2) w.heap.size w1.heap.size (some ⟨b, 0, none⟩) t.kids.length t.kids) {U : World} (g2 : Gr (w1.setCell ⟨y, 6, none⟩ v) w2) (hU : stA w2 x0 [(0, .string nm), (1, .bool nb), (2, .int .i64 t.kind), (3, .int .i64 t.width), (4, .int .i64 t.id), (5, .int .i64 t.index), (6, .slice (some ⟨b, 0, none⟩) t.kids.length t.kids.length)] = U) :
    U.heap[x0]? = some (.cells #[.string nm, .bool nb, .int .i64 t.kind, .int .i64 t.width, .int .i64 t.id, .int .i64 t.index, .slice (some ⟨b, 0, none⟩) t.kids.length t.kids.length] 26) ∧ AtQ W (d + 3) (0, ⟨nm, nb, t.kind, t.width, t.id, t.index, t.kids⟩) (.returned (.tuple #[.agg #[.string nm, .bool nb, .int .i64 t.kind, .int .i64 t.width, .int .i64 t.id, .int .i64 t.index, .slice (some ⟨b, 0, none⟩) t.kids.length t.kids.length], .int .i64 0])) U := by
  have ks : Keeps w1 (w1.setCell ⟨y, 6, none⟩ v) (fun z => z = y) := Keeps.setCell (S := fun z => z = y) (p := ⟨y, 6, none⟩) (Keeps.refl w1 _) (fun _ => rfl) v
  have hx := lt_of_heap h.z
  have hy := lt_of_heap h.out
  have xy := h.xy
  have z1 := (g1.block _ hx id).trans h.z
  have z1' := (ks.block x0 (lt_of_heap z1) (fun e => by have e' : x0 = y := e; omega)).trans z1
  have z2 := (g2.block _ (lt_of_heap z1') id).trans z1'
  have ku : Keeps w2 U (fun z => z = x0) := by rw [← hU]; exact stA_kp _ _ _
  have kw : Keeps w1 U (fun z => z = y ∨ z = x0) := (ks.mono fun _ _ h => Or.inl h).tr ((g2.mono (T := fun z => z = y ∨ z = x0) fun _ _ h => h.elim).tr (ku.mono fun _ _ h => Or.inr h))
  have hk : RowAt (NewB W U) U (d + 2) (some ⟨b, 0, none⟩) t.kids := (hT.row.kept fun z hz => kw.block z hz.2 (fun e => by rcases e with e | e <;> (have := hz.1; omega))).mono fun z hz => ⟨by have := hz.1; have := h.gr.size; omega, by have := hz.2; have := kw.size; omega⟩
  refine ⟨by rw [← hU]; exact st7 z2, some ⟨b, 0, none⟩, t.kids.length, rfl, ((h.gr.tr g1).trans kw (fun j hj e => by have := h.x; have := h.xy; rcases e with e | e <;> omega)), Nat.le_refl _, hk.up⟩
theorem tail_gr {S : Nat → Prop} {W w w1 w2 : World} {d x0 y : Nat} {nm : ByteArray} {nb : Bool} {t : FT} {ao : Option Addr} {ca : Nat} {v : Value} (h : Tl5 S W d x0 y nm nb t ao ca w) (g1 : Gr w w1) (g2 : Gr (w1.setCell ⟨y, 6, none⟩ v) w2) : Gr W w2 := by
  have ks : Keeps w1 (w1.setCell ⟨y, 6, none⟩ v) (fun z => z = y) := Keeps.setCell (S := fun z => z = y) (p := ⟨y, 6, none⟩) (Keeps.refl w1 _) (fun _ => rfl) v
  exact ((h.gr.tr g1).trans ks (fun j hj (e : j = y) => by have := h.x; have := h.xy; omega)).tr g2
theorem tail5_no {S : Nat → Prop} {W w : World} {d x0 y : Nat} {nm : ByteArray} {nb : Bool} {t : FT} {ao : Option Addr} {ca : Nat} {D : Nat} (h : Tl5 S W d x0 y nm nb t ao ca w) (t0 t1 t2 t3 t5 t6 t7 t8 t9 t10 t11 t13 t14 t16 t17 t18 t19 t20 t21 t22 t23 t24 t25 t26 t27 t28 t29 t30 t31 t32 t33 t34 t35 t36 t37 t38 t39 t40 t41 t42 t43 t44 t45 t46 t47 t48 t49 t50 t51 t52 t53 t54 t55 t56 t57 t58 t59 t60 t61 t62 t63 t64 t65 t66 t67 t68 t69 t70 t71 t72 t73 t74 t75 t76 t77 t78 t79 t80 t81 t82 t83 t84 t85 t86 t87 t88 t89 t90 t91 t92 t93 t94 t95 t96 t97 t98 t99 t100 t101 t102 t103 t104 t105 t106 t107 t108 t109 t110 t111 t112 t113 t114 t115 t116 t117 t118 t119 t120 t121 t122 t123 t124 t125 t126 t127 t128 t129 t130 t131 t132 t133 t134 t135 t136 t137 t138 t139 t140 t141 t142 t143 t144 t145 t146 t147 t148 t149 t150 t151 t152 t153 t154 t155 t156 t157 t158 t159 t160 t161 t162 t163 t164 t165 t166 t167 t168 t169 t170 t171 t172 t173 t174 t175 t176 t177 t178 t179 t180 t181 t182 t183 t184 t185 t186 t187 t188 t189 t190 t191 t192 t193 t194 t195 t196 t197 t198 t199 t200 t201 t202 t203 t204 t205 t206 t207 t208 t209 t210 t211 t212 t213 t214 t215 t216 t217 t218 t219 t220 t221 t222 t223 t224 t225 t226 t227 t228 t229 t230 t231 t232 t233 t234 t235 t236 t237 t238 t239 t240 t241 t242 t243 t244 t245 t246 t247 t248 t249 t250 t251 t252 t253 t254 t255 t256 t257 t258 t259 t260 t261 t262 : Value) : tail5.wp Tryz.prog (bodyPost Tryz.prog Tryz.f5 (AtQ W D (5, zFT))) (actT x0 y false t0 t1 t2 t3 t5 t6 t7 t8 t9 t10 t11 t13 t14 t16 t17 t18 t19 t20 t21 t22 t23 t24 t25 t26 t27 t28 t29 t30 t31 t32 t33 t34 t35 t36 t37 t38 t39 t40 t41 t42 t43 t44 t45 t46 t47 t48 t49 t50 t51 t52 t53 t54 t55 t56 t57 t58 t59 t60 t61 t62 t63 t64 t65 t66 t67 t68 t69 t70 t71 t72 t73 t74 t75 t76 t77 t78 t79 t80 t81 t82 t83 t84 t85 t86 t87 t88 t89 t90 t91 t92 t93 t94 t95 t96 t97 t98 t99 t100 t101 t102 t103 t104 t105 t106 t107 t108 t109 t110 t111 t112 t113 t114 t115 t116 t117 t118 t119 t120 t121 t122 t123 t124 t125 t126 t127 t128 t129 t130 t131 t132 t133 t134 t135 t136 t137 t138 t139 t140 t141 t142 t143 t144 t145 t146 t147 t148 t149 t150 t151 t152 t153 t154 t155 t156 t157 t158 t159 t160 t161 t162 t163 t164 t165 t166 t167 t168 t169 t170 t171 t172 t173 t174 t175 t176 t177 t178 t179 t180 t181 t182 t183 t184 t185 t186 t187 t188 t189 t190 t191 t192 t193 t194 t195 t196 t197 t198 t199 t200 t201 t202 t203 t204 t205 t206 t207 t208 t209 t210 t211 t212 t213 t214 t215 t216 t217 t218 t219 t220 t221 t222 t223 t224 t225 t226 t227 t228 t229 t230 t231 t232 t233 t234 t235 t236 t237 t238 t239 t240 t241 t242 t243 t244 t245 t246 t247 t248 t249 t250 t251 t252 t253 t254 t255 t256 t257 t258 t259 t260 t261 t262) w := by
  have hz := h.z
  have hgw := h.gr
  have HX : Hid (W.heap.size ≤ x0) := h.x
  obtain ⟨q0, q1, q2, q3, q4, q5, q6⟩ := cell7p hz
  obtain ⟨y0, y1, y2, y3, y4, y5, y6⟩ := frz7 hz
  obtain ⟨U, hU⟩ := ex (stA w x0 [(0, .string ⟨#[]⟩), (1, .bool false), (2, .int .i64 0), (3, .int .i64 0), (4, .int .i64 0), (5, .int .i64 0), (6, .slice none 0 0)])
  have hno := AtQ.no (W := W) (D := D) (x0 := x0) 5 (HX.out) hgw hz
  rw [hU] at hno
  have HNO := hidM hno
  simp only [stA] at hU
  clear hno hz hgw
  clear h
  simp only [tail5, rest5, sq2, Tryz.f5, Option.getD, actT]
  go_wp2_with fail
  (try simp only [Exit.inBlock, Exit.then])
  refine bodyPost_ret (results_c26t rfl rfl (by with_reducible exact HNO.out.1) (by kernel_rfl)) rfl HNO.out.2
theorem tail5_ok {S : Nat → Prop} {W w : World} {d x0 y : Nat} {nm : ByteArray} {nb : Bool} {t : FT} {ao : Option Addr} {ca : Nat} {r : Int × FT} {er tt : Int} {p : List Nat} (h : Tl5 S W d x0 y nm nb t ao ca w) (hS : ∀ b, S b → b < W.heap.size) (hF : FaultIs (0, 0) (nodes (d + 3) [⟨nm, nb, t.kind, t.width, t.id, t.index, t.kids⟩] [] false) er p tt) (hr : r = if er = 0 then (0, ⟨nm, nb, t.kind, t.width, t.id, t.index, t.kids⟩) else (5, zFT)) (t0 t1 t2 t3 t5 t6 t7 t8 t9 t10 t11 t13 t14 t16 t17 t18 t19 t20 t21 t22 t23 t24 t25 t26 t27 t28 t29 t30 t31 t32 t33 t34 t35 t36 t37 t38 t39 t40 t41 t42 t43 t44 t45 t46 t47 t48 t49 t50 t51 t52 t53 t54 t55 t56 t57 t58 t59 t60 t61 t62 t63 t64 t65 t66 t67 t68 t69 t70 t71 t72 t73 t74 t75 t76 t77 t78 t79 t80 t81 t82 t83 t84 t85 t86 t87 t88 t89 t90 t91 t92 t93 t94 t95 t96 t97 t98 t99 t100 t101 t102 t103 t104 t105 t106 t107 t108 t109 t110 t111 t112 t113 t114 t115 t116 t117 t118 t119 t120 t121 t122 t123 t124 t125 t126 t127 t128 t129 t130 t131 t132 t133 t134 t135 t136 t137 t138 t139 t140 t141 t142 t143 t144 t145 t146 t147 t148 t149 t150 t151 t152 t153 t154 t155 t156 t157 t158 t159 t160 t161 t162 t163 t164 t165 t166 t167 t168 t169 t170 t171 t172 t173 t174 t175 t176 t177 t178 t179 t180 t181 t182 t183 t184 t185 t186 t187 t188 t189 t190 t191 t192 t193 t194 t195 t196 t197 t198 t199 t200 t201 t202 t203 t204 t205 t206 t207 t208 t209 t210 t211 t212 t213 t214 t215 t216 t217 t218 t219 t220 t221 t222 t223 t224 t225 t226 t227 t228 t229 t230 t231 t232 t233 t234 t235 t236 t237 t238 t239 t240 t241 t242 t243 t244 t245 t246 t247 t248 t249 t250 t251 t252 t253 t254 t255 t256 t257 t258 t259 t260 t261 t262 : Value) : tail5.wp Tryz.prog (bodyPost Tryz.prog Tryz.f5 (AtQ W (d + 3) r)) (actT x0 y true t0 t1 t2 t3 t5 t6 t7 t8 t9 t10 t11 t13 t14 t16 t17 t18 t19 t20 t21 t22 t23 t24 t25 t26 t27 t28 t29 t30 t31 t32 t33 t34 t35 t36 t37 t38 t39 t40 t41 t42 t43 t44 t45 t46 t47 t48 t49 t50 t51 t52 t53 t54 t55 t56 t57 t58 t59 t60 t61 t62 t63 t64 t65 t66 t67 t68 t69 t70 t71 t72 t73 t74 t75 t76 t77 t78 t79 t80 t81 t82 t83 t84 t85 t86 t87 t88 t89 t90 t91 t92 t93 t94 t95 t96 t97 t98 t99 t100 t101 t102 t103 t104 t105 t106 t107 t108 t109 t110 t111 t112 t113 t114 t115 t116 t117 t118 t119 t120 t121 t122 t123 t124 t125 t126 t127 t128 t129 t130 t131 t132 t133 t134 t135 t136 t137 t138 t139 t140 t141 t142 t143 t144 t145 t146 t147 t148 t149 t150 t151 t152 t153 t154 t155 t156 t157 t158 t159 t160 t161 t162 t163 t164 t165 t166 t167 t168 t169 t170 t171 t172 t173 t174 t175 t176 t177 t178 t179 t180 t181 t182 t183 t184 t185 t186 t187 t188 t189 t190 t191 t192 t193 t194 t195 t196 t197 t198 t199 t200 t201 t202 t203 t204 t205 t206 t207 t208 t209 t210 t211 t212 t213 t214 t215 t216 t217 t218 t219 t220 t221 t222 t223 t224 t225 t226 t227 t228 t229 t230 t231 t232 t233 t234 t235 t236 t237 t238 t239 t240 t241 t242 t243 t244 t245 t246 t247 t248 t249 t250 t251 t252 t253 t254 t255 t256 t257 t258 t259 t260 t261 t262) w := by
  obtain ⟨d', hd', hrow0⟩ := h.ty.row
  have hrow : RowAt S W d ao t.kids := hrow0.le hd'
  have hroww : RowAt S w (d + 1) ao t.kids := (hrow.kept fun b hb => h.gr.block b (hS b hb) id).up
  have HC := hidM (copyFields_any S w (fun b hb => Nat.lt_of_lt_of_le (hS b hb) h.gr.size) d t.kids ao ca hroww w (Keeps.refl _ _))
  obtain ⟨q0, q1, q2, q3, q4, q5, q6⟩ := cell7p h.out
  have HH := hidM h
  have HM : Hid (∀ w1 b, Gr w w1 → Tr w1 (d + 2) w.heap.size w1.heap.size (some ⟨b, 0, none⟩) t.kids.length t.kids → w1.heap[y]? = some (.cells #[.string nm, .bool nb, .int .i64 t.kind, .int .i64 t.width, .int .i64 t.id, .int .i64 t.index, .slice ao t.kids.length ca] 26) ∧ (w1.setCell ⟨y, 6, none⟩ (.slice (some ⟨b, 0, none⟩) t.kids.length t.kids.length)).heap[y]? = some (.cells #[.string nm, .bool nb, .int .i64 t.kind, .int .i64 t.width, .int .i64 t.id, .int .i64 t.index, .slice (some ⟨b, 0, none⟩) t.kids.length t.kids.length] 26) ∧ (w1.setCell ⟨y, 6, none⟩ (.slice (some ⟨b, 0, none⟩) t.kids.length t.kids.length)).heap[x0]? = some (.cells #[.string ⟨#[]⟩, .bool false, .int .i64 0, .int .i64 0, .int .i64 0, .int .i64 0, .slice none 0 0] 26) ∧ Calls Tryz.prog 16 #[.agg #[.string nm, .bool nb, .int .i64 t.kind, .int .i64 t.width, .int .i64 t.id, .int .i64 t.index, .slice (some ⟨b, 0, none⟩) t.kids.length t.kids.length]] (w1.setCell ⟨y, 6, none⟩ (.slice (some ⟨b, 0, none⟩) t.kids.length t.kids.length)) fun e w' => e = .returned (.bool (er == 0)) ∧ Gr (w1.setCell ⟨y, 6, none⟩ (.slice (some ⟨b, 0, none⟩) t.kids.length t.kids.length)) w') := fun w1 b g1 hT => by
    have ks : Keeps w1 (w1.setCell ⟨y, 6, none⟩ (.slice (some ⟨b, 0, none⟩) t.kids.length t.kids.length)) (fun z => z = y) := Keeps.setCell (S := fun z => z = y) (p := ⟨y, 6, none⟩) (Keeps.refl w1 _) (fun _ => rfl) _
    have hy := lt_of_heap h.out
    have xy := h.xy
    have o1 := (g1.block _ hy id).trans h.out
    have z1 := (g1.block _ (lt_of_heap h.z) id).trans h.z
    have o2 := heap_setCell_same w1 y 6 _ _ (.slice (some ⟨b, 0, none⟩) t.kids.length t.kids.length) o1
    refine ⟨o1, by simpa using o2, (ks.block x0 (lt_of_heap z1) (fun e => by have e' : x0 = y := e; omega)).trans z1, ?_⟩
    have hk : RowAt (fun z => w.heap.size ≤ z ∧ z < w1.heap.size) (w1.setCell ⟨y, 6, none⟩ (.slice (some ⟨b, 0, none⟩) t.kids.length t.kids.length)) (d + 2) (some ⟨b, 0, none⟩) t.kids := hT.row.kept fun z hz => ks.block z hz.2 (fun e => by have e' : z = y := e; have := hz.1; omega)
    exact mayBeR_gen (f := ⟨nm, nb, t.kind, t.width, t.id, t.index, t.kids⟩) ⟨hk, Nat.le_refl _⟩ (fun z hz => Nat.lt_of_lt_of_le hz.2 ks.size) hF _ (Keeps.refl _ _)
  by_cases h0 : er = 0
  · rw [if_pos h0] at hr
    subst hr
    have he : (er == 0) = true := by simp [h0]
    rw [he] at HM
    clear h hrow hroww hrow0 hF hS h0 he
    simp only [tail5, rest5, sq2, Tryz.f5, Option.getD, actT]
    go_wp2_with (first
      | (go_at_call 21; refine HC.out.mono ?_; rintro e w1 ⟨b, rfl, g1, hT⟩; obtain ⟨o1, o2, z2, hc16⟩ := HM.out w1 b g1 hT; have HC16 := hidM hc16; obtain ⟨s0, s1, s2, s3, s4, s5, s6⟩ := cell7p o1; have f6 := frz o1 6; obtain ⟨V, hV⟩ := ex (w1.setCell ⟨y, 6, none⟩ (.slice (some ⟨b, 0, none⟩) t.kids.length t.kids.length)); have HP : Hid (∀ w2, Gr V w2 → ∀ U, stA w2 x0 [(0, .string nm), (1, .bool nb), (2, .int .i64 t.kind), (3, .int .i64 t.width), (4, .int .i64 t.id), (5, .int .i64 t.index), (6, .slice (some ⟨b, 0, none⟩) t.kids.length t.kids.length)] = U → _) := (fun w2 g2 U hU => tail_put HH.out g1 hT (hV ▸ g2) hU); have HG9 : Hid (∀ w2, Gr V w2 → Gr W w2) := (fun w2 g2 => tail_gr HH.out g1 (hV ▸ g2)); rw [hV] at o2 z2 HC16; obtain ⟨v0, v1, v2, v3, v4, v5, v6⟩ := cell7p o2; have HO2 := hidM (And.intro o2 z2); clear o1 o2 z2 hc16 g1 hT q0 q1 q2 q3 q4 q5 q6)
      | (go_at_call 16; refine HC16.out.mono ?_; rintro e w2 ⟨rfl, g2⟩; have hz := (g2.block _ (lt_of_heap HO2.out.2) id).trans HO2.out.2; have ho := (g2.block _ (lt_of_heap HO2.out.1) id).trans HO2.out.1; clear v0 v1 v2 v3 v4 v5 v6 hV s0 s1 s2 s3 s4 s5 s6 f6; obtain ⟨v0, v1, v2, v3, v4, v5, v6⟩ := cell7p ho; obtain ⟨q0, q1, q2, q3, q4, q5, q6⟩ := cell7p hz; obtain ⟨y0, y1, y2, y3, y4, y5, y6⟩ := frz7 hz; obtain ⟨U, hU⟩ := ex (stA w2 x0 [(0, .string nm), (1, .bool nb), (2, .int .i64 t.kind), (3, .int .i64 t.width), (4, .int .i64 t.id), (5, .int .i64 t.index), (6, .slice (some ⟨b, 0, none⟩) t.kids.length t.kids.length)]); have hput := HP.out w2 g2 U hU; have HNO := hidM hput; simp only [stA] at hU; clear hput hz ho g2))
    (try simp only [Exit.inBlock, Exit.then])
    refine bodyPost_ret (results_c26t rfl rfl (by with_reducible exact HNO.out.1) (by kernel_rfl)) rfl HNO.out.2
  rw [if_neg h0] at hr
  subst hr
  have he : (er == 0) = false := beqZ h0
  rw [he] at HM
  clear h hrow hroww hrow0 hF hS h0 he
  simp only [tail5, rest5, sq2, Tryz.f5, Option.getD, actT]
  go_wp2_with (first
    | (go_at_call 21; refine HC.out.mono ?_; rintro e w1 ⟨b, rfl, g1, hT⟩; obtain ⟨o1, o2, z2, hc16⟩ := HM.out w1 b g1 hT; have HC16 := hidM hc16; obtain ⟨s0, s1, s2, s3, s4, s5, s6⟩ := cell7p o1; have f6 := frz o1 6; obtain ⟨V, hV⟩ := ex (w1.setCell ⟨y, 6, none⟩ (.slice (some ⟨b, 0, none⟩) t.kids.length t.kids.length)); have HP : Hid (∀ w2, Gr V w2 → ∀ U, stA w2 x0 [(0, .string nm), (1, .bool nb), (2, .int .i64 t.kind), (3, .int .i64 t.width), (4, .int .i64 t.id), (5, .int .i64 t.index), (6, .slice (some ⟨b, 0, none⟩) t.kids.length t.kids.length)] = U → _) := (fun w2 g2 U hU => tail_put HH.out g1 hT (hV ▸ g2) hU); have HG9 : Hid (∀ w2, Gr V w2 → Gr W w2) := (fun w2 g2 => tail_gr HH.out g1 (hV ▸ g2)); rw [hV] at o2 z2 HC16; obtain ⟨v0, v1, v2, v3, v4, v5, v6⟩ := cell7p o2; have HO2 := hidM (And.intro o2 z2); clear o1 o2 z2 hc16 g1 hT q0 q1 q2 q3 q4 q5 q6)
    | (go_at_call 16; refine HC16.out.mono ?_; rintro e w2 ⟨rfl, g2⟩; have hz := (g2.block _ (lt_of_heap HO2.out.2) id).trans HO2.out.2; have ho := (g2.block _ (lt_of_heap HO2.out.1) id).trans HO2.out.1; clear v0 v1 v2 v3 v4 v5 v6 hV s0 s1 s2 s3 s4 s5 s6 f6; obtain ⟨v0, v1, v2, v3, v4, v5, v6⟩ := cell7p ho; have hgw := HG9.out w2 g2; clear g2 ho; obtain ⟨q0, q1, q2, q3, q4, q5, q6⟩ := cell7p hz; obtain ⟨y0, y1, y2, y3, y4, y5, y6⟩ := frz7 hz; obtain ⟨U, hU⟩ := ex (stA w2 x0 [(0, .string ⟨#[]⟩), (1, .bool false), (2, .int .i64 0), (3, .int .i64 0), (4, .int .i64 0), (5, .int .i64 0), (6, .slice none 0 0)]); have hno := AtQ.no (W := W) (D := d + 3) (x0 := x0) 5 (HH.out.x) hgw hz; rw [hU] at hno; have HNO := hidM hno; simp only [stA] at hU; clear hno hz hgw))
  (try simp only [Exit.inBlock, Exit.then])
  refine bodyPost_ret (results_c26t rfl rfl (by with_reducible exact HNO.out.1) (by kernel_rfl)) rfl HNO.out.2
theorem Ref5.tl {S : Nat → Prop} {W w w1 V : World} {d n x0 y gp cp : Nat} {f g : Nat → FT} {xs : List Value} {nm : ByteArray} {nb : Bool} {t : FT} {ao : Option Addr} {ca : Nat} (h : Ref5 S W d n x0 y gp cp f g xs w) (g1 : Gr w w1) (k : Keeps w1 V (fun z => z = y)) (ho : V.heap[y]? = some (.cells #[.string nm, .bool nb, .int .i64 t.kind, .int .i64 t.width, .int .i64 t.id, .int .i64 t.index, .slice ao t.kids.length ca] 26)) (ty : TyI S W d t ao ca) : Tl5 S W d x0 y nm nb t ao ca V := by
  have z1 := (g1.block _ (lt_of_heap h.z) id).trans h.z
  exact ⟨(h.gr.tr g1).trans k (fun j hj (e : j = y) => by have := h.x; have := h.xy; omega), (k.block x0 (lt_of_heap z1) (fun e => by have e' : x0 = y := e; have := h.xy; omega)).trans z1, ho, h.x, h.xy, ty⟩
theorem ty_bool {S : Nat → Prop} {W : World} {d : Nat} (t : FT) (h : t.kids = []) : TyI S W d t none 0 := ⟨by simp [h], 0, Nat.zero_le _, h⟩
def boolT : FT := ⟨⟨#[]⟩, false, 2, 0, 0, 0, []⟩
def int64T : FT := ⟨⟨#[]⟩, false, 6, 0, 0, 0, []⟩
theorem wholeR18 (k : Int) (W : World) : Calls Tryz.prog 18 #[.int .i64 k] W fun e w' => e = .returned (.bool (decide (3 ≤ k) && decide (k ≤ 10))) ∧ W = w' := by
  go_enter Tryz.func18, Tryz.ntmps18
  go_wp2
  all_goals go_ret
  all_goals (refine ⟨?_, rfl⟩; first | rfl | (simp; omega) | (simp_all; done) | (simp_all; omega))
theorem textsR20 (k : Int) (W : World) : Calls Tryz.prog 20 #[.int .i64 k] W fun e w' => e = .returned (.bool (k == 12 || k == 13)) ∧ W = w' := by
  go_enter Tryz.func20, Tryz.ntmps20
  go_wp2
  all_goals go_ret
  all_goals (refine ⟨?_, rfl⟩; first | rfl | (simp; omega) | (simp_all; done) | (simp_all; omega))
theorem ref5_bad (S : Nat → Prop) (d b o lc n m : Nat) (op : Int) (f g : Nat → FT) (ao : Nat → Option Addr) (ca : Nat → Nat) (D : Nat) (W : World) (hS : ∀ b, S b → b < W.heap.size) (hb : b < W.heap.size)
    (hN : argR op = n) (hn3 : n ≤ 3) (hm : m < n) (hlc : n ≤ lc) (hF : ∀ i, i < n → FlI S W d b (o + i * 7) (f i) (ao i) (ca i)) (hP : ∀ i, i < m → PlV d (f i) (g i))
    (hM : ∀ i, i < m → Ans 16 #[.agg #[.string (f i).name, .bool (f i).nul, .int .i64 (f i).kind, .int .i64 (f i).width, .int .i64 (f i).id, .int .i64 (f i).index, .slice (ao i) (f i).kids.length (ca i)]] true W) (hB : Ans 16 #[.agg #[.string (f m).name, .bool (f m).nul, .int .i64 (f m).kind, .int .i64 (f m).width, .int .i64 (f m).id, .int .i64 (f m).index, .slice (ao m) (f m).kids.length (ca m)]] false W) :
    Calls Tryz.prog 5 #[.int .i64 op, .slice (some ⟨b, o, none⟩) n lc] W (AtQ W D (5, zFT)) := by
  have H15 : Hid (∀ u, Calls Tryz.prog 15 #[.int .i64 op] u fun e w' => e = .returned (.int .i64 (n : Int)) ∧ u = w') := fun u => by have h := argsR_any op u; rwa [hN] at h
  obtain ⟨x0, hx0⟩ := ex (W.heap.size)
  obtain ⟨A0, hA0⟩ := ex (W.alloc (.cells #[.string ⟨#[]⟩, .bool false, .int .i64 0, .int .i64 0, .int .i64 0, .int .i64 0, .slice none 0 0] 26))
  have g0 := gr_al hA0
  have z0 : A0.heap[x0]? = some (.cells #[.string ⟨#[]⟩, .bool false, .int .i64 0, .int .i64 0, .int .i64 0, .int .i64 0, .slice none 0 0] 26) := by rw [← hA0, ← hx0]; exact heap_alloc_new W _
  have HB := hidM hB
  have HF := hidM hF
  have HM := hidM hM
  have HP := hidM hP
  have HX := hidM hx0
  have HSb := hidM (And.intro hS hb)
  have hn3I : (n : Int) ≤ 3 := by omega
  have hlcI : (n : Int) ≤ (lc : Int) := by omega
  have HZ := hidM (And.intro g0 z0)
  clear hB hF hM hP hS hb hN g0 z0
  go_enter Tryz.func5, Tryz.ntmps5
  (try rw [hx0])
  refine cut9 (fun C hC => ?_)
  have HC : Hid (C = rest5) := hC.trans (by kernel_rfl)
  clear hC
  go_wp2_with (go_at_call 15; refine (H15.out _).mono ?_; rintro e w1 ⟨rfl, hw⟩; subst hw)
  obtain ⟨E0, hE0⟩ := ex (A0.alloc (.cells #[] 26))
  rw [hE0]
  have HI0 : Hid (PlL S W d x0 f g 0 (.slice (some ⟨A0.heap.size, 0, none⟩) 0 0) E0) := by
    have hg := gr_al hE0
    have hc := al_new hE0
    refine ⟨HZ.out.1.tr hg, (hg.block _ (lt_of_heap HZ.out.2) id).trans HZ.out.2, ⟨[], rfl, own_zero hc⟩, fun q e => ?_⟩
    obtain rfl : A0.heap.size = q := by simpa [Value.ownBlock] using e
    have h1 := lt_of_heap HZ.out.2
    exact ⟨HZ.out.1.size, by omega⟩
  clear hE0 hA0
  go_loopw [6, 7, 8, 9] (fun v an al i wr => ∃ k : Nat, k ≤ m ∧ an = .bool (anyN f k) ∧ al = .bool (allN f k) ∧ i = .int .i64 (k : Int) ∧ Hid (PlL S W d x0 f g k v wr)) (fun _ _ _ i _ => n - (intOf i).toNat)
  case atStart => exact ⟨0, by omega, rfl, rfl, rfl, HI0⟩
  case round =>
    clear HI0
    obtain ⟨k, hk, rfl, rfl, rfl, HI⟩ := hrel
    obtain ⟨xs, hxs, hown⟩ := HI.out.own
    have HO := hidM hown
    have HXS := hidM hxs
    clear hown hxs
    by_cases hlt : k < m
    · obtain ⟨vo, vc, rfl⟩ := own_formN HO.out
      have hltn : k < n := by omega
      have hltI : (k : Int) < (n : Int) := by omega
      have hFk := (HF.out k hltn).gr HI.out.gr HSb.out.2 HSb.out.1
      obtain ⟨c0, c1, c2, c3, c4, c5, c6⟩ := hFk.c
      have HC16 := hidM (HM.out k hlt wr HI.out.gr)
      have HG := hidM HI.out.gr
      have HC17 : Hid (∀ u, Gr wr u → Calls Tryz.prog 17 #[.agg #[.string (f k).name, .bool (f k).nul, .int .i64 (f k).kind, .int .i64 (f k).width, .int .i64 (f k).id, .int .i64 (f k).index, .slice (ao k) (f k).kids.length (ca k)]] u fun e w' => ∃ bo cb, e = .returned (.agg #[.string (f k).name, .bool (f k).nul, .int .i64 (g k).kind, .int .i64 (g k).width, .int .i64 (g k).id, .int .i64 (g k).index, .slice bo (g k).kids.length cb]) ∧ Gr u w' ∧ TyI S W d (g k) bo cb) := fun u gu => by
        have gWu := HG.out.tr gu
        refine (plainR17 S d d (f k) (g k) (ao k) (ca k) u ((HF.out k hltn).row.kept fun b hb => gWu.block b (HSb.out.1 b hb) id) (HF.out k hltn).le (fun b hb => Nat.lt_of_lt_of_le (HSb.out.1 b hb) gWu.size) (HP.out k hlt)).mono ?_
        rintro e w' ⟨d', bo, cb, rfl, g', hd, hr, hl⟩
        exact ⟨bo, cb, rfl, g', hl, d', hd, hr.kept fun b hb => (gWu.block b (HSb.out.1 b hb) id).symm⟩
      have HFn : Hid (∀ u, Gr wr u → CellsAt u b (o + k * 7) (f k) (ao k) (ca k)) := fun u gu => hFk.c.kept (gu.block b (Nat.lt_of_lt_of_le HSb.out.2 HI.out.gr.size) id)
      clear hFk
      go_wp2_with (first
        | (go_at_call 16; refine HC16.out.mono ?_; rintro e w1 ⟨rfl, gw⟩; obtain ⟨d0, d1, d2, d3, d4, d5, d6⟩ := HFn.out w1 gw; have HC17' := hidM (HC17.out w1 gw); have HG1 := hidM gw; clear gw c0 c1 c2 c3 c4 c5 c6)
        | (go_at_call 17; refine HC17'.out.mono ?_; rintro e w2 ⟨bo, cb, rfl, gw, hty⟩; have g2 := HG1.out.tr gw; clear gw; obtain ⟨B, hB⟩ := ex (w2.alloc (.cells #[.string ⟨#[]⟩, .bool false, .int .i64 0, .int .i64 0, .int .i64 0, .int .i64 0, .slice none 0 0] 26)); obtain ⟨z, hz⟩ := ex (w2.heap.size); obtain ⟨X, hX⟩ := ex (stA B z [(0, .string (f k).name), (1, .bool (f k).nul), (2, .int .i64 (g k).kind), (3, .int .i64 (g k).width), (4, .int .i64 (g k).id), (5, .int .i64 (g k).index), (6, .slice bo (g k).kids.length cb)]); obtain ⟨gX, cX, cB⟩ := box7 hB hz hX; obtain ⟨q0, q1, q2, q3, q4, q5, q6⟩ := cell7p cB; obtain ⟨f0, f1, f2, f3, f4, f5, f6⟩ := frz7 cB; obtain ⟨p0, p1, p2, p3, p4, p5, p6⟩ := cell7p cX; simp only [stA] at hX; have HTY := hidM hty; have HCX := hidM cX; have HGX := hidM (g2.tr gX); have HZz : Hid (wr.heap.size ≤ z) := (by rw [← hz]; exact g2.size); clear g2 gX cX cB hty d0 d1 d2 d3 d4 d5 d6)
        | (with_reducible show wpList Tryz.prog _ _ (Oper.mk (some 46) _ _ _ _ _ :: _) _ _; refine Hid.out ?_))
      unfold Hid
      have HQ : Hid (∀ q, (Value.slice vo k vc).ownBlock = some q → q < wr.heap.size) := fun q e => own_lt HO.out q e
      have gXE : Gr X (X.alloc (.cells #[.string (f k).name, .bool (f k).nul, .int .i64 (g k).kind, .int .i64 (g k).width, .int .i64 (g k).id, .int .i64 (g k).index, .slice bo (g k).kids.length cb] 26)) := gr_alloc X _
      have HGE : Hid (Gr wr (X.alloc (.cells #[.string (f k).name, .bool (f k).nul, .int .i64 (g k).kind, .int .i64 (g k).width, .int .i64 (g k).id, .int .i64 (g k).index, .slice bo (g k).kids.length cb] 26))) := HGX.out.tr gXE
      have hcz : (X.alloc (.cells #[.string (f k).name, .bool (f k).nul, .int .i64 (g k).kind, .int .i64 (g k).width, .int .i64 (g k).id, .int .i64 (g k).index, .slice bo (g k).kids.length cb] 26)).cell? ⟨z, 1, none⟩ = some (.bool (f k).nul) := gXE.cell' p1 id
      have hzE : z < (X.alloc (.cells #[.string (f k).name, .bool (f k).nul, .int .i64 (g k).kind, .int .i64 (g k).width, .int .i64 (g k).id, .int .i64 (g k).index, .slice bo (g k).kids.length cb] 26)).heap.size := Nat.lt_of_lt_of_le (lt_of_heap HCX.out) gXE.size
      refine wpList_append_anyN (P := Tryz.prog) _ rfl (.tmp 43) (.tmp 45) 22 22 rfl 26 z37 7 80 Tryz.underlying22 info37 c37 (.slice vo k vc) k xs rfl (row_kp HO.out (fun q e => HGE.out.block q (HQ.out q e) id)) (.slice (some ⟨X.heap.size, 0, none⟩) 1 1) 1 [.string (f k).name, .bool (f k).nul, .int .i64 (g k).kind, .int .i64 (g k).width, .int .i64 (g k).id, .int .i64 (g k).index, .slice bo (g k).kids.length cb] rfl (src_fld X _ rfl _ _ _ _ _ _ _ (by simp [Value.oneCell'])) (by omega) (by omega) ?_
      intro v' w3 ha1 ha2 ha3
      have cz : w3.cell? ⟨z, 1, none⟩ = some (.bool (f k).nul) := by
        rw [World.cell?_of_block (ha2.block z hzE (fun e => by have := HQ.out z e.symm; have := HZz.out; omega))]
        exact hcz
      have HN : Hid (PlL S W d x0 f g (k + 1) v' w3) := by
        have gWE := HG.out.tr HGE.out
        have hx := lt_of_heap HI.out.z
        have hxE : x0 < (X.alloc (.cells #[.string (f k).name, .bool (f k).nul, .int .i64 (g k).kind, .int .i64 (g k).width, .int .i64 (g k).id, .int .i64 (g k).index, .slice bo (g k).kids.length cb] 26)).heap.size := Nat.lt_of_lt_of_le hx HGE.out.size
        refine ⟨gWE.trans (Keeps.ofGrown ha2) (fun j hj e => ?_), (ha2.block x0 hxE (fun e => (HI.out.low x0 e.symm).2 rfl)).trans ((HGE.out.block _ hx id).trans HI.out.z), ⟨_, ⟨xs, bo, cb, HXS.out, HTY.out, rfl⟩, ha1⟩, fun q e => ?_⟩
        · have := (HI.out.low j e).1
          omega
        rcases ha3 with e2 | e2
        · exact HI.out.low q (e2 ▸ e)
        have h1 := e2 q e
        have h2 := gWE.size
        exact ⟨by omega, by omega⟩
      clear ha1 ha2 ha3 hcz hzE HGE gXE p0 p1 p2 p3 p4 p5 p6 q0 q1 q2 q3 q4 q5 q6 f0 f1 f2 f3 f4 f5 f6 hX hB hz HTY HCX HGX HZz HQ HC17 HC17' HG1 HC16 HFn HI HO HXS
      obtain ⟨b1, e1⟩ := ex (anyN f k)
      obtain ⟨b2, e2⟩ := ex (allN f k)
      rw [e1, e2]
      have E1 := hidM e1
      have E2 := hidM e2
      clear e1 e2
      cases b1 <;> cases b2
      all_goals
        (go_wp2_with fail
         go_roundw
         case rel => exact ⟨k + 1, by omega, by rw [anyN, E1.out]; rfl, by rw [allN, E2.out]; rfl, by go_num, HN⟩
         case measure => simp [intOf]; omega)
    obtain rfl : k = m := by omega
    have hltI : (k : Int) < (n : Int) := by omega
    obtain ⟨vo, vc, rfl⟩ := own_formN HO.out
    have hFk := (HF.out k hm).gr HI.out.gr HSb.out.2 HSb.out.1
    obtain ⟨c0, c1, c2, c3, c4, c5, c6⟩ := hFk.c
    have HC16 := hidM (HB.out wr HI.out.gr)
    have HII := hidM (And.intro HI.out.gr HI.out.z)
    clear hFk HI HO HXS HF HM HP HSb
    go_wp2_with (go_at_call 16; refine HC16.out.mono ?_; rintro e w1 ⟨rfl, gw⟩; have hz := (gw.block _ (lt_of_heap HII.out.2) id).trans HII.out.2; have hgw := HII.out.1.tr gw; clear gw; obtain ⟨q0, q1, q2, q3, q4, q5, q6⟩ := cell7p hz; obtain ⟨y0, y1, y2, y3, y4, y5, y6⟩ := frz7 hz; obtain ⟨U, hU⟩ := ex (stA w1 x0 [(0, .string ⟨#[]⟩), (1, .bool false), (2, .int .i64 0), (3, .int .i64 0), (4, .int .i64 0), (5, .int .i64 0), (6, .slice none 0 0)]); have hno := AtQ.no (W := W) (D := D) (x0 := x0) 5 (Nat.le_of_eq HX.out) hgw hz; rw [hU] at hno; have HNO := hidM hno; simp only [stA] at hU; clear hno hz hgw)
    (try simp only [Exit.inBlock, Exit.then])
    refine bodyPost_ret (results_c26t rfl rfl (by with_reducible exact HNO.out.1) (by kernel_rfl)) rfl HNO.out.2
theorem ref5_arg (lo : Option Addr) (n lc D : Nat) (op : Int) (W : World) (hN : argR op ≠ n) :
    Calls Tryz.prog 5 #[.int .i64 op, .slice lo n lc] W (AtQ W D (1, zFT)) := by
  obtain ⟨x0, hx0⟩ := ex (W.heap.size)
  obtain ⟨A0, hA0⟩ := ex (W.alloc (.cells #[.string ⟨#[]⟩, .bool false, .int .i64 0, .int .i64 0, .int .i64 0, .int .i64 0, .slice none 0 0] 26))
  have g0 := gr_al hA0
  have z0 : A0.heap[x0]? = some (.cells #[.string ⟨#[]⟩, .bool false, .int .i64 0, .int .i64 0, .int .i64 0, .int .i64 0, .slice none 0 0] 26) := by rw [← hA0, ← hx0]; exact heap_alloc_new W _
  have HX := hidM hx0
  have hz := z0
  have hgw := g0
  obtain ⟨q0, q1, q2, q3, q4, q5, q6⟩ := cell7p hz
  obtain ⟨y0, y1, y2, y3, y4, y5, y6⟩ := frz7 hz
  obtain ⟨U, hU⟩ := ex (stA A0 x0 [(0, .string ⟨#[]⟩), (1, .bool false), (2, .int .i64 0), (3, .int .i64 0), (4, .int .i64 0), (5, .int .i64 0), (6, .slice none 0 0)])
  have hno := AtQ.no (W := W) (D := D) (x0 := x0) 1 (Nat.le_of_eq HX.out) hgw hz
  rw [hU] at hno
  have HNO := hidM hno
  simp only [stA] at hU
  clear hno hz hgw
  clear g0 z0
  have H15 := hidM (argsR_any op)
  obtain ⟨k, hk⟩ := ex (argR op)
  rw [hk] at H15 hN
  have e1 : ((n : Int) == k) = false := by simpa using fun e => hN e.symm
  have e2 : ((n : Int) != k) = true := by simp [bne, e1]
  have e3 : ¬ (n : Int) = k := fun e => hN e.symm
  clear hN hk
  go_enter Tryz.func5, Tryz.ntmps5
  (try rw [hx0])
  go_wp2_with (go_at_call 15; refine (H15.out _).mono ?_; rintro e w1 ⟨rfl, hw⟩; subst hw)
  (try simp only [Exit.inBlock, Exit.then])
  refine bodyPost_ret (results_c26t rfl rfl (by with_reducible exact HNO.out.1) (by kernel_rfl)) rfl HNO.out.2
end Go.Proofs.YtknnoiomdngmfaaGreatDoor.Kit
