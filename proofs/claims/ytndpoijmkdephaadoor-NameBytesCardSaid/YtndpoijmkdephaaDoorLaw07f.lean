/- The walk of NameBytes: one region, for any frame. Written by wip/tools/want07.py. -/
import Derived.Test.YtndpoijmkdephaaDoorLaw07c
namespace Go.Proofs.YtndpoijmkdephaaDoor
open Go.RowKit
theorem wantB (c : UInt8) (bB : Bool) : (if bB then Nm.atP c else Nm.inP c) = (Nm.isL c || Nm.isG c || c == 95 || c == 43 || ((c == 46 || c == 45) && !bB)) := by
  cases bB
  · have := Nm.each (fun c => Nm.inP c == (Nm.isL c || Nm.isG c || c == 95 || c == 43 || ((c == 46 || c == 45) && !false))) (by decide +kernel) c
    exact beq_iff_eq.1 this
  · have := Nm.each (fun c => Nm.atP c == (Nm.isL c || Nm.isG c || c == 95 || c == 43 || ((c == 46 || c == 45) && !true))) (by decide +kernel) c
    exact beq_iff_eq.1 this
/-- a region of a function's text -/
def regionOf7 (n : Nat) : Code → Option Code
  | .region i ops d => if i = n then some (.region i ops d) else none
  | .seq a b => match regionOf7 n a with
    | some c => some c
    | none => regionOf7 n b
  | .block _ c => regionOf7 n c
  | .loop c => regionOf7 n c
  | .scope c => regionOf7 n c
  | .cond _ a b => match regionOf7 n a with
    | some c => some c
    | none => regionOf7 n b
  | _ => none
noncomputable def wantCode : Code := ((Tryd.f5.body.bind (regionOf7 6)).getD .skip)
set_option maxRecDepth 100000 in
set_option maxHeartbeats 4000000 in
theorem want_region (c : UInt8) (bL bG bB bW : Bool) (HL : Hid (Nm.isL c = bL)) (HG : Hid (Nm.isG c = bG)) (HBW : Hid ((if bB then Nm.atP c else Nm.inP c) = bW)) (w1 : World) (t0 t1 t3 t4 t5 t6 t7 t8 t9 t10 t14 t15 t16 t17 t18 t19 t20 t21 t22 t23 t24 t25 t26 t27 t28 t29 t30 t31 t32 t33 t34 t35 t36 t37 t38 t39 t40 t41 t42 t43 t44 t45 t46 t47 t48 t49 t50 t51 t52 t53 t54 t55 t56 t57 t58 t59 t60 t61 t62 t63 t64 t65 t66 t67 t68 t69 t70 t71 t72 t73 t74 t75 t76 t77 t78 t79 t80 t81 t82 t83 t84 t85 t86 t87 t88 t89 t90 t91 t92 t93 t94 t95 t96 t97 t98 t99 t100 t101 t102 t103 t104 t105 t106 t107 t108 t109 t110 t111 t112 t113 t114 t115 t116 t117 t118 t119 t120 t121 t122 t123 t124 t125 t126 t127 t128 t129 t130 t131 t132 t133 t134 t135 t136 t137 t138 t139 t140 t141 t142 t143 t144 t145 t146 t147 t148 t149 t150 t151 t152 t153 t154 t155 t156 t157 t158 t159 t160 t161 t162 t163 t164 t165 t166 t167 : Value) (K' : Act → World → Prop) (Q' : Exit → Act → World → Prop)
    (hK : Hid (∀ (x58 x59 x60 x61 x62 x63 x64 x65 x66 x67 x68 x69 x70 x71 x72 x73 x74 x75 x76 x77 x78 x79 x80 x81 : Value), K' ⟨(t0 :: t1 :: (.int .u8 (c.toNat : Int)) :: t3 :: t4 :: t5 :: t6 :: t7 :: t8 :: t9 :: t10 :: (.bool bL) :: (.bool bG) :: (.bool bB) :: (.bool bW) :: t15 :: t16 :: t17 :: t18 :: t19 :: t20 :: t21 :: t22 :: t23 :: t24 :: t25 :: t26 :: t27 :: t28 :: t29 :: t30 :: t31 :: t32 :: t33 :: t34 :: t35 :: t36 :: t37 :: t38 :: t39 :: t40 :: t41 :: t42 :: t43 :: t44 :: t45 :: t46 :: t47 :: t48 :: t49 :: t50 :: t51 :: t52 :: t53 :: t54 :: t55 :: t56 :: t57 :: x58 :: x59 :: x60 :: x61 :: x62 :: x63 :: x64 :: x65 :: x66 :: x67 :: x68 :: x69 :: x70 :: x71 :: x72 :: x73 :: x74 :: x75 :: x76 :: x77 :: x78 :: x79 :: x80 :: x81 :: t82 :: t83 :: t84 :: t85 :: t86 :: t87 :: t88 :: t89 :: t90 :: t91 :: t92 :: t93 :: t94 :: t95 :: t96 :: t97 :: t98 :: t99 :: t100 :: t101 :: t102 :: t103 :: t104 :: t105 :: t106 :: t107 :: t108 :: t109 :: t110 :: t111 :: t112 :: t113 :: t114 :: t115 :: t116 :: t117 :: t118 :: t119 :: t120 :: t121 :: t122 :: t123 :: t124 :: t125 :: t126 :: t127 :: t128 :: t129 :: t130 :: t131 :: t132 :: t133 :: t134 :: t135 :: t136 :: t137 :: t138 :: t139 :: t140 :: t141 :: t142 :: t143 :: t144 :: t145 :: t146 :: t147 :: t148 :: t149 :: t150 :: t151 :: t152 :: t153 :: t154 :: t155 :: t156 :: t157 :: t158 :: t159 :: t160 :: t161 :: t162 :: t163 :: t164 :: t165 :: t166 :: t167 :: []).toArray, []⟩ w1)) :
    Code.wp Tryd.prog wantCode (Exit.then K' Q') ⟨(t0 :: t1 :: (.int .u8 (c.toNat : Int)) :: t3 :: t4 :: t5 :: t6 :: t7 :: t8 :: t9 :: t10 :: (.bool bL) :: (.bool bG) :: (.bool bB) :: t14 :: t15 :: t16 :: t17 :: t18 :: t19 :: t20 :: t21 :: t22 :: t23 :: t24 :: t25 :: t26 :: t27 :: t28 :: t29 :: t30 :: t31 :: t32 :: t33 :: t34 :: t35 :: t36 :: t37 :: t38 :: t39 :: t40 :: t41 :: t42 :: t43 :: t44 :: t45 :: t46 :: t47 :: t48 :: t49 :: t50 :: t51 :: t52 :: t53 :: t54 :: t55 :: t56 :: t57 :: t58 :: t59 :: t60 :: t61 :: t62 :: t63 :: t64 :: t65 :: t66 :: t67 :: t68 :: t69 :: t70 :: t71 :: t72 :: t73 :: t74 :: t75 :: t76 :: t77 :: t78 :: t79 :: t80 :: t81 :: t82 :: t83 :: t84 :: t85 :: t86 :: t87 :: t88 :: t89 :: t90 :: t91 :: t92 :: t93 :: t94 :: t95 :: t96 :: t97 :: t98 :: t99 :: t100 :: t101 :: t102 :: t103 :: t104 :: t105 :: t106 :: t107 :: t108 :: t109 :: t110 :: t111 :: t112 :: t113 :: t114 :: t115 :: t116 :: t117 :: t118 :: t119 :: t120 :: t121 :: t122 :: t123 :: t124 :: t125 :: t126 :: t127 :: t128 :: t129 :: t130 :: t131 :: t132 :: t133 :: t134 :: t135 :: t136 :: t137 :: t138 :: t139 :: t140 :: t141 :: t142 :: t143 :: t144 :: t145 :: t146 :: t147 :: t148 :: t149 :: t150 :: t151 :: t152 :: t153 :: t154 :: t155 :: t156 :: t157 :: t158 :: t159 :: t160 :: t161 :: t162 :: t163 :: t164 :: t165 :: t166 :: t167 :: []).toArray, []⟩ w1 := by
  have hw := HBW.out
  rw [wantB, HL.out, HG.out] at hw
  clear HL HG HBW
  conv => arg 2; whnf
  cases bL with
  | true =>
    simp only [Bool.true_or] at hw
    subst hw
    go_wp2_with fail
    exact hK.out _ _ _ _ _ _ _ _ _ _ _ _ _ _ _ _ _ _ _ _ _ _ _ _
  | false =>
  cases bG with
  | true =>
    simp only [Bool.true_or, Bool.or_true] at hw
    subst hw
    go_wp2_with fail
    exact hK.out _ _ _ _ _ _ _ _ _ _ _ _ _ _ _ _ _ _ _ _ _ _ _ _
  | false =>
  by_cases h95 : c = 95
  · have z0 : ((c.toNat : Int) == 95) = true := Nm.byte_eq (n := 95) (by rw [h95]; rfl) (by omega)
    obtain rfl : bW = true := by rw [← hw, h95]; rfl
    clear hw h95
    go_wp2_with fail
    exact hK.out _ _ _ _ _ _ _ _ _ _ _ _ _ _ _ _ _ _ _ _ _ _ _ _
  have z0 : ((c.toNat : Int) == 95) = false := Nm.byte_ne (n := 95) h95 (by omega)
  by_cases h43 : c = 43
  · have z1 : ((c.toNat : Int) == 43) = true := Nm.byte_eq (n := 43) (by rw [h43]; rfl) (by omega)
    obtain rfl : bW = true := by rw [← hw, h43]; rfl
    clear hw h95 h43
    go_wp2_with fail
    exact hK.out _ _ _ _ _ _ _ _ _ _ _ _ _ _ _ _ _ _ _ _ _ _ _ _
  have z1 : ((c.toNat : Int) == 43) = false := Nm.byte_ne (n := 43) h43 (by omega)
  by_cases h46 : c = 46
  · have z2 : ((c.toNat : Int) == 46) = true := Nm.byte_eq (n := 46) (by rw [h46]; rfl) (by omega)
    obtain rfl : bW = !bB := by rw [← hw, h46]; cases bB <;> rfl
    clear hw h95 h43 h46
    go_wp2_with fail
    exact hK.out _ _ _ _ _ _ _ _ _ _ _ _ _ _ _ _ _ _ _ _ _ _ _ _
  have z2 : ((c.toNat : Int) == 46) = false := Nm.byte_ne (n := 46) h46 (by omega)
  by_cases h45 : c = 45
  · have z3 : ((c.toNat : Int) == 45) = true := Nm.byte_eq (n := 45) (by rw [h45]; rfl) (by omega)
    obtain rfl : bW = !bB := by rw [← hw, h45]; cases bB <;> rfl
    clear hw h95 h43 h46 h45
    go_wp2_with fail
    exact hK.out _ _ _ _ _ _ _ _ _ _ _ _ _ _ _ _ _ _ _ _ _ _ _ _
  have z3 : ((c.toNat : Int) == 45) = false := Nm.byte_ne (n := 45) h45 (by omega)
  obtain rfl : bW = false := by
    rw [← hw]
    simp [h95, h43, h46, h45]
  clear hw h95 h43 h46 h45
  go_wp2_with fail
  exact hK.out _ _ _ _ _ _ _ _ _ _ _ _ _ _ _ _ _ _ _ _ _ _ _ _
end Go.Proofs.YtndpoijmkdephaaDoor
