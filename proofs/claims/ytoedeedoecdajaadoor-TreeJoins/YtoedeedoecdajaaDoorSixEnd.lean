/- Region 6 of the law TreeJoins: where it begins; an act's slots written out. -/
import Derived.Test.YtoedeedoecdajaaDoorSixRun
namespace Go.Proofs.YtoedeedoecdajaaDoor
open Go.RowKit
set_option linter.unusedVariables false
theorem six_start {c : C6} (hz : c.wz.drew.heap.size = c.wz.heap.size) : Six c (Array.replicate 17 false) c.a0 c.wz.drew := by
  have no : ∀ k, ¬ Dn (Array.replicate 17 false) k := fun k h => by
    unfold Dn at h
    rw [Array.getD_eq_getD_getElem?, Array.getElem?_replicate] at h
    split at h <;> simp at h
  exact { df := ⟨rfl, rfl⟩, ks := fun _ _ => rfl, be := (Below.refl _ _).drew, od := ⟨fun h => absurd h (no _), fun h => absurd h (no _), fun h => absurd h (no _), fun h => absurd h (no _)⟩, f0 := fun h => absurd h (no _), f1 := fun h => absurd h (no _), f2 := fun h => absurd h (no _), f3 := fun h => absurd h (no _), f4 := fun h => absurd h (no _), f5 := fun h => absurd h (no _), f6 := fun h => absurd h (no _), f7 := fun h => absurd h (no _), f8 := fun h => absurd h (no _), f9 := fun h => absurd h (no _), f10 := fun h => absurd h (no _), f11 := fun h => absurd h (no _), f12 := fun h => absurd h (no _), f13 := fun h => absurd h (no _), f14 := fun h => absurd h (no _), f15 := fun h => absurd h (no _) }
set_option maxRecDepth 100000 in
/-- a list of 103, written out -/
theorem list103 (l : List Value) (h : l.length = 103) : ∃ t0 t1 t2 t3 t4 t5 t6 t7 t8 t9 t10 t11 t12 t13 t14 t15 t16 t17 t18 t19 t20 t21 t22 t23 t24 t25 t26 t27 t28 t29 t30 t31 t32 t33 t34 t35 t36 t37 t38 t39 t40 t41 t42 t43 t44 t45 t46 t47 t48 t49 t50 t51 t52 t53 t54 t55 t56 t57 t58 t59 t60 t61 t62 t63 t64 t65 t66 t67 t68 t69 t70 t71 t72 t73 t74 t75 t76 t77 t78 t79 t80 t81 t82 t83 t84 t85 t86 t87 t88 t89 t90 t91 t92 t93 t94 t95 t96 t97 t98 t99 t100 t101 t102, l = t0 :: t1 :: t2 :: t3 :: t4 :: t5 :: t6 :: t7 :: t8 :: t9 :: t10 :: t11 :: t12 :: t13 :: t14 :: t15 :: t16 :: t17 :: t18 :: t19 :: t20 :: t21 :: t22 :: t23 :: t24 :: t25 :: t26 :: t27 :: t28 :: t29 :: t30 :: t31 :: t32 :: t33 :: t34 :: t35 :: t36 :: t37 :: t38 :: t39 :: t40 :: t41 :: t42 :: t43 :: t44 :: t45 :: t46 :: t47 :: t48 :: t49 :: t50 :: t51 :: t52 :: t53 :: t54 :: t55 :: t56 :: t57 :: t58 :: t59 :: t60 :: t61 :: t62 :: t63 :: t64 :: t65 :: t66 :: t67 :: t68 :: t69 :: t70 :: t71 :: t72 :: t73 :: t74 :: t75 :: t76 :: t77 :: t78 :: t79 :: t80 :: t81 :: t82 :: t83 :: t84 :: t85 :: t86 :: t87 :: t88 :: t89 :: t90 :: t91 :: t92 :: t93 :: t94 :: t95 :: t96 :: t97 :: t98 :: t99 :: t100 :: t101 :: t102 :: [] := by
  obtain ⟨t0, l0, rfl⟩ := List.exists_cons_of_length_eq_add_one h
  have h0 : l0.length = 102 := by simpa using h
  obtain ⟨t1, l1, rfl⟩ := List.exists_cons_of_length_eq_add_one h0
  have h1 : l1.length = 101 := by simpa using h0
  obtain ⟨t2, l2, rfl⟩ := List.exists_cons_of_length_eq_add_one h1
  have h2 : l2.length = 100 := by simpa using h1
  obtain ⟨t3, l3, rfl⟩ := List.exists_cons_of_length_eq_add_one h2
  have h3 : l3.length = 99 := by simpa using h2
  obtain ⟨t4, l4, rfl⟩ := List.exists_cons_of_length_eq_add_one h3
  have h4 : l4.length = 98 := by simpa using h3
  obtain ⟨t5, l5, rfl⟩ := List.exists_cons_of_length_eq_add_one h4
  have h5 : l5.length = 97 := by simpa using h4
  obtain ⟨t6, l6, rfl⟩ := List.exists_cons_of_length_eq_add_one h5
  have h6 : l6.length = 96 := by simpa using h5
  obtain ⟨t7, l7, rfl⟩ := List.exists_cons_of_length_eq_add_one h6
  have h7 : l7.length = 95 := by simpa using h6
  obtain ⟨t8, l8, rfl⟩ := List.exists_cons_of_length_eq_add_one h7
  have h8 : l8.length = 94 := by simpa using h7
  obtain ⟨t9, l9, rfl⟩ := List.exists_cons_of_length_eq_add_one h8
  have h9 : l9.length = 93 := by simpa using h8
  obtain ⟨t10, l10, rfl⟩ := List.exists_cons_of_length_eq_add_one h9
  have h10 : l10.length = 92 := by simpa using h9
  obtain ⟨t11, l11, rfl⟩ := List.exists_cons_of_length_eq_add_one h10
  have h11 : l11.length = 91 := by simpa using h10
  obtain ⟨t12, l12, rfl⟩ := List.exists_cons_of_length_eq_add_one h11
  have h12 : l12.length = 90 := by simpa using h11
  obtain ⟨t13, l13, rfl⟩ := List.exists_cons_of_length_eq_add_one h12
  have h13 : l13.length = 89 := by simpa using h12
  obtain ⟨t14, l14, rfl⟩ := List.exists_cons_of_length_eq_add_one h13
  have h14 : l14.length = 88 := by simpa using h13
  obtain ⟨t15, l15, rfl⟩ := List.exists_cons_of_length_eq_add_one h14
  have h15 : l15.length = 87 := by simpa using h14
  obtain ⟨t16, l16, rfl⟩ := List.exists_cons_of_length_eq_add_one h15
  have h16 : l16.length = 86 := by simpa using h15
  obtain ⟨t17, l17, rfl⟩ := List.exists_cons_of_length_eq_add_one h16
  have h17 : l17.length = 85 := by simpa using h16
  obtain ⟨t18, l18, rfl⟩ := List.exists_cons_of_length_eq_add_one h17
  have h18 : l18.length = 84 := by simpa using h17
  obtain ⟨t19, l19, rfl⟩ := List.exists_cons_of_length_eq_add_one h18
  have h19 : l19.length = 83 := by simpa using h18
  obtain ⟨t20, l20, rfl⟩ := List.exists_cons_of_length_eq_add_one h19
  have h20 : l20.length = 82 := by simpa using h19
  obtain ⟨t21, l21, rfl⟩ := List.exists_cons_of_length_eq_add_one h20
  have h21 : l21.length = 81 := by simpa using h20
  obtain ⟨t22, l22, rfl⟩ := List.exists_cons_of_length_eq_add_one h21
  have h22 : l22.length = 80 := by simpa using h21
  obtain ⟨t23, l23, rfl⟩ := List.exists_cons_of_length_eq_add_one h22
  have h23 : l23.length = 79 := by simpa using h22
  obtain ⟨t24, l24, rfl⟩ := List.exists_cons_of_length_eq_add_one h23
  have h24 : l24.length = 78 := by simpa using h23
  obtain ⟨t25, l25, rfl⟩ := List.exists_cons_of_length_eq_add_one h24
  have h25 : l25.length = 77 := by simpa using h24
  obtain ⟨t26, l26, rfl⟩ := List.exists_cons_of_length_eq_add_one h25
  have h26 : l26.length = 76 := by simpa using h25
  obtain ⟨t27, l27, rfl⟩ := List.exists_cons_of_length_eq_add_one h26
  have h27 : l27.length = 75 := by simpa using h26
  obtain ⟨t28, l28, rfl⟩ := List.exists_cons_of_length_eq_add_one h27
  have h28 : l28.length = 74 := by simpa using h27
  obtain ⟨t29, l29, rfl⟩ := List.exists_cons_of_length_eq_add_one h28
  have h29 : l29.length = 73 := by simpa using h28
  obtain ⟨t30, l30, rfl⟩ := List.exists_cons_of_length_eq_add_one h29
  have h30 : l30.length = 72 := by simpa using h29
  obtain ⟨t31, l31, rfl⟩ := List.exists_cons_of_length_eq_add_one h30
  have h31 : l31.length = 71 := by simpa using h30
  obtain ⟨t32, l32, rfl⟩ := List.exists_cons_of_length_eq_add_one h31
  have h32 : l32.length = 70 := by simpa using h31
  obtain ⟨t33, l33, rfl⟩ := List.exists_cons_of_length_eq_add_one h32
  have h33 : l33.length = 69 := by simpa using h32
  obtain ⟨t34, l34, rfl⟩ := List.exists_cons_of_length_eq_add_one h33
  have h34 : l34.length = 68 := by simpa using h33
  obtain ⟨t35, l35, rfl⟩ := List.exists_cons_of_length_eq_add_one h34
  have h35 : l35.length = 67 := by simpa using h34
  obtain ⟨t36, l36, rfl⟩ := List.exists_cons_of_length_eq_add_one h35
  have h36 : l36.length = 66 := by simpa using h35
  obtain ⟨t37, l37, rfl⟩ := List.exists_cons_of_length_eq_add_one h36
  have h37 : l37.length = 65 := by simpa using h36
  obtain ⟨t38, l38, rfl⟩ := List.exists_cons_of_length_eq_add_one h37
  have h38 : l38.length = 64 := by simpa using h37
  obtain ⟨t39, l39, rfl⟩ := List.exists_cons_of_length_eq_add_one h38
  have h39 : l39.length = 63 := by simpa using h38
  obtain ⟨t40, l40, rfl⟩ := List.exists_cons_of_length_eq_add_one h39
  have h40 : l40.length = 62 := by simpa using h39
  obtain ⟨t41, l41, rfl⟩ := List.exists_cons_of_length_eq_add_one h40
  have h41 : l41.length = 61 := by simpa using h40
  obtain ⟨t42, l42, rfl⟩ := List.exists_cons_of_length_eq_add_one h41
  have h42 : l42.length = 60 := by simpa using h41
  obtain ⟨t43, l43, rfl⟩ := List.exists_cons_of_length_eq_add_one h42
  have h43 : l43.length = 59 := by simpa using h42
  obtain ⟨t44, l44, rfl⟩ := List.exists_cons_of_length_eq_add_one h43
  have h44 : l44.length = 58 := by simpa using h43
  obtain ⟨t45, l45, rfl⟩ := List.exists_cons_of_length_eq_add_one h44
  have h45 : l45.length = 57 := by simpa using h44
  obtain ⟨t46, l46, rfl⟩ := List.exists_cons_of_length_eq_add_one h45
  have h46 : l46.length = 56 := by simpa using h45
  obtain ⟨t47, l47, rfl⟩ := List.exists_cons_of_length_eq_add_one h46
  have h47 : l47.length = 55 := by simpa using h46
  obtain ⟨t48, l48, rfl⟩ := List.exists_cons_of_length_eq_add_one h47
  have h48 : l48.length = 54 := by simpa using h47
  obtain ⟨t49, l49, rfl⟩ := List.exists_cons_of_length_eq_add_one h48
  have h49 : l49.length = 53 := by simpa using h48
  obtain ⟨t50, l50, rfl⟩ := List.exists_cons_of_length_eq_add_one h49
  have h50 : l50.length = 52 := by simpa using h49
  obtain ⟨t51, l51, rfl⟩ := List.exists_cons_of_length_eq_add_one h50
  have h51 : l51.length = 51 := by simpa using h50
  obtain ⟨t52, l52, rfl⟩ := List.exists_cons_of_length_eq_add_one h51
  have h52 : l52.length = 50 := by simpa using h51
  obtain ⟨t53, l53, rfl⟩ := List.exists_cons_of_length_eq_add_one h52
  have h53 : l53.length = 49 := by simpa using h52
  obtain ⟨t54, l54, rfl⟩ := List.exists_cons_of_length_eq_add_one h53
  have h54 : l54.length = 48 := by simpa using h53
  obtain ⟨t55, l55, rfl⟩ := List.exists_cons_of_length_eq_add_one h54
  have h55 : l55.length = 47 := by simpa using h54
  obtain ⟨t56, l56, rfl⟩ := List.exists_cons_of_length_eq_add_one h55
  have h56 : l56.length = 46 := by simpa using h55
  obtain ⟨t57, l57, rfl⟩ := List.exists_cons_of_length_eq_add_one h56
  have h57 : l57.length = 45 := by simpa using h56
  obtain ⟨t58, l58, rfl⟩ := List.exists_cons_of_length_eq_add_one h57
  have h58 : l58.length = 44 := by simpa using h57
  obtain ⟨t59, l59, rfl⟩ := List.exists_cons_of_length_eq_add_one h58
  have h59 : l59.length = 43 := by simpa using h58
  obtain ⟨t60, l60, rfl⟩ := List.exists_cons_of_length_eq_add_one h59
  have h60 : l60.length = 42 := by simpa using h59
  obtain ⟨t61, l61, rfl⟩ := List.exists_cons_of_length_eq_add_one h60
  have h61 : l61.length = 41 := by simpa using h60
  obtain ⟨t62, l62, rfl⟩ := List.exists_cons_of_length_eq_add_one h61
  have h62 : l62.length = 40 := by simpa using h61
  obtain ⟨t63, l63, rfl⟩ := List.exists_cons_of_length_eq_add_one h62
  have h63 : l63.length = 39 := by simpa using h62
  obtain ⟨t64, l64, rfl⟩ := List.exists_cons_of_length_eq_add_one h63
  have h64 : l64.length = 38 := by simpa using h63
  obtain ⟨t65, l65, rfl⟩ := List.exists_cons_of_length_eq_add_one h64
  have h65 : l65.length = 37 := by simpa using h64
  obtain ⟨t66, l66, rfl⟩ := List.exists_cons_of_length_eq_add_one h65
  have h66 : l66.length = 36 := by simpa using h65
  obtain ⟨t67, l67, rfl⟩ := List.exists_cons_of_length_eq_add_one h66
  have h67 : l67.length = 35 := by simpa using h66
  obtain ⟨t68, l68, rfl⟩ := List.exists_cons_of_length_eq_add_one h67
  have h68 : l68.length = 34 := by simpa using h67
  obtain ⟨t69, l69, rfl⟩ := List.exists_cons_of_length_eq_add_one h68
  have h69 : l69.length = 33 := by simpa using h68
  obtain ⟨t70, l70, rfl⟩ := List.exists_cons_of_length_eq_add_one h69
  have h70 : l70.length = 32 := by simpa using h69
  obtain ⟨t71, l71, rfl⟩ := List.exists_cons_of_length_eq_add_one h70
  have h71 : l71.length = 31 := by simpa using h70
  obtain ⟨t72, l72, rfl⟩ := List.exists_cons_of_length_eq_add_one h71
  have h72 : l72.length = 30 := by simpa using h71
  obtain ⟨t73, l73, rfl⟩ := List.exists_cons_of_length_eq_add_one h72
  have h73 : l73.length = 29 := by simpa using h72
  obtain ⟨t74, l74, rfl⟩ := List.exists_cons_of_length_eq_add_one h73
  have h74 : l74.length = 28 := by simpa using h73
  obtain ⟨t75, l75, rfl⟩ := List.exists_cons_of_length_eq_add_one h74
  have h75 : l75.length = 27 := by simpa using h74
  obtain ⟨t76, l76, rfl⟩ := List.exists_cons_of_length_eq_add_one h75
  have h76 : l76.length = 26 := by simpa using h75
  obtain ⟨t77, l77, rfl⟩ := List.exists_cons_of_length_eq_add_one h76
  have h77 : l77.length = 25 := by simpa using h76
  obtain ⟨t78, l78, rfl⟩ := List.exists_cons_of_length_eq_add_one h77
  have h78 : l78.length = 24 := by simpa using h77
  obtain ⟨t79, l79, rfl⟩ := List.exists_cons_of_length_eq_add_one h78
  have h79 : l79.length = 23 := by simpa using h78
  obtain ⟨t80, l80, rfl⟩ := List.exists_cons_of_length_eq_add_one h79
  have h80 : l80.length = 22 := by simpa using h79
  obtain ⟨t81, l81, rfl⟩ := List.exists_cons_of_length_eq_add_one h80
  have h81 : l81.length = 21 := by simpa using h80
  obtain ⟨t82, l82, rfl⟩ := List.exists_cons_of_length_eq_add_one h81
  have h82 : l82.length = 20 := by simpa using h81
  obtain ⟨t83, l83, rfl⟩ := List.exists_cons_of_length_eq_add_one h82
  have h83 : l83.length = 19 := by simpa using h82
  obtain ⟨t84, l84, rfl⟩ := List.exists_cons_of_length_eq_add_one h83
  have h84 : l84.length = 18 := by simpa using h83
  obtain ⟨t85, l85, rfl⟩ := List.exists_cons_of_length_eq_add_one h84
  have h85 : l85.length = 17 := by simpa using h84
  obtain ⟨t86, l86, rfl⟩ := List.exists_cons_of_length_eq_add_one h85
  have h86 : l86.length = 16 := by simpa using h85
  obtain ⟨t87, l87, rfl⟩ := List.exists_cons_of_length_eq_add_one h86
  have h87 : l87.length = 15 := by simpa using h86
  obtain ⟨t88, l88, rfl⟩ := List.exists_cons_of_length_eq_add_one h87
  have h88 : l88.length = 14 := by simpa using h87
  obtain ⟨t89, l89, rfl⟩ := List.exists_cons_of_length_eq_add_one h88
  have h89 : l89.length = 13 := by simpa using h88
  obtain ⟨t90, l90, rfl⟩ := List.exists_cons_of_length_eq_add_one h89
  have h90 : l90.length = 12 := by simpa using h89
  obtain ⟨t91, l91, rfl⟩ := List.exists_cons_of_length_eq_add_one h90
  have h91 : l91.length = 11 := by simpa using h90
  obtain ⟨t92, l92, rfl⟩ := List.exists_cons_of_length_eq_add_one h91
  have h92 : l92.length = 10 := by simpa using h91
  obtain ⟨t93, l93, rfl⟩ := List.exists_cons_of_length_eq_add_one h92
  have h93 : l93.length = 9 := by simpa using h92
  obtain ⟨t94, l94, rfl⟩ := List.exists_cons_of_length_eq_add_one h93
  have h94 : l94.length = 8 := by simpa using h93
  obtain ⟨t95, l95, rfl⟩ := List.exists_cons_of_length_eq_add_one h94
  have h95 : l95.length = 7 := by simpa using h94
  obtain ⟨t96, l96, rfl⟩ := List.exists_cons_of_length_eq_add_one h95
  have h96 : l96.length = 6 := by simpa using h95
  obtain ⟨t97, l97, rfl⟩ := List.exists_cons_of_length_eq_add_one h96
  have h97 : l97.length = 5 := by simpa using h96
  obtain ⟨t98, l98, rfl⟩ := List.exists_cons_of_length_eq_add_one h97
  have h98 : l98.length = 4 := by simpa using h97
  obtain ⟨t99, l99, rfl⟩ := List.exists_cons_of_length_eq_add_one h98
  have h99 : l99.length = 3 := by simpa using h98
  obtain ⟨t100, l100, rfl⟩ := List.exists_cons_of_length_eq_add_one h99
  have h100 : l100.length = 2 := by simpa using h99
  obtain ⟨t101, l101, rfl⟩ := List.exists_cons_of_length_eq_add_one h100
  have h101 : l101.length = 1 := by simpa using h100
  obtain ⟨t102, l102, rfl⟩ := List.exists_cons_of_length_eq_add_one h101
  have h102 : l102.length = 0 := by simpa using h101
  obtain rfl := List.eq_nil_of_length_eq_zero h102
  exact ⟨t0, t1, t2, t3, t4, t5, t6, t7, t8, t9, t10, t11, t12, t13, t14, t15, t16, t17, t18, t19, t20, t21, t22, t23, t24, t25, t26, t27, t28, t29, t30, t31, t32, t33, t34, t35, t36, t37, t38, t39, t40, t41, t42, t43, t44, t45, t46, t47, t48, t49, t50, t51, t52, t53, t54, t55, t56, t57, t58, t59, t60, t61, t62, t63, t64, t65, t66, t67, t68, t69, t70, t71, t72, t73, t74, t75, t76, t77, t78, t79, t80, t81, t82, t83, t84, t85, t86, t87, t88, t89, t90, t91, t92, t93, t94, t95, t96, t97, t98, t99, t100, t101, t102, rfl⟩
theorem arr103 (a : Array Value) (h : a.size = 103) : ∃ t0 t1 t2 t3 t4 t5 t6 t7 t8 t9 t10 t11 t12 t13 t14 t15 t16 t17 t18 t19 t20 t21 t22 t23 t24 t25 t26 t27 t28 t29 t30 t31 t32 t33 t34 t35 t36 t37 t38 t39 t40 t41 t42 t43 t44 t45 t46 t47 t48 t49 t50 t51 t52 t53 t54 t55 t56 t57 t58 t59 t60 t61 t62 t63 t64 t65 t66 t67 t68 t69 t70 t71 t72 t73 t74 t75 t76 t77 t78 t79 t80 t81 t82 t83 t84 t85 t86 t87 t88 t89 t90 t91 t92 t93 t94 t95 t96 t97 t98 t99 t100 t101 t102, a = List.toArray (t0 :: t1 :: t2 :: t3 :: t4 :: t5 :: t6 :: t7 :: t8 :: t9 :: t10 :: t11 :: t12 :: t13 :: t14 :: t15 :: t16 :: t17 :: t18 :: t19 :: t20 :: t21 :: t22 :: t23 :: t24 :: t25 :: t26 :: t27 :: t28 :: t29 :: t30 :: t31 :: t32 :: t33 :: t34 :: t35 :: t36 :: t37 :: t38 :: t39 :: t40 :: t41 :: t42 :: t43 :: t44 :: t45 :: t46 :: t47 :: t48 :: t49 :: t50 :: t51 :: t52 :: t53 :: t54 :: t55 :: t56 :: t57 :: t58 :: t59 :: t60 :: t61 :: t62 :: t63 :: t64 :: t65 :: t66 :: t67 :: t68 :: t69 :: t70 :: t71 :: t72 :: t73 :: t74 :: t75 :: t76 :: t77 :: t78 :: t79 :: t80 :: t81 :: t82 :: t83 :: t84 :: t85 :: t86 :: t87 :: t88 :: t89 :: t90 :: t91 :: t92 :: t93 :: t94 :: t95 :: t96 :: t97 :: t98 :: t99 :: t100 :: t101 :: t102 :: []) := by
  obtain ⟨l⟩ := a
  obtain ⟨t0, t1, t2, t3, t4, t5, t6, t7, t8, t9, t10, t11, t12, t13, t14, t15, t16, t17, t18, t19, t20, t21, t22, t23, t24, t25, t26, t27, t28, t29, t30, t31, t32, t33, t34, t35, t36, t37, t38, t39, t40, t41, t42, t43, t44, t45, t46, t47, t48, t49, t50, t51, t52, t53, t54, t55, t56, t57, t58, t59, t60, t61, t62, t63, t64, t65, t66, t67, t68, t69, t70, t71, t72, t73, t74, t75, t76, t77, t78, t79, t80, t81, t82, t83, t84, t85, t86, t87, t88, t89, t90, t91, t92, t93, t94, t95, t96, t97, t98, t99, t100, t101, t102, rfl⟩ := list103 l h
  exact ⟨t0, t1, t2, t3, t4, t5, t6, t7, t8, t9, t10, t11, t12, t13, t14, t15, t16, t17, t18, t19, t20, t21, t22, t23, t24, t25, t26, t27, t28, t29, t30, t31, t32, t33, t34, t35, t36, t37, t38, t39, t40, t41, t42, t43, t44, t45, t46, t47, t48, t49, t50, t51, t52, t53, t54, t55, t56, t57, t58, t59, t60, t61, t62, t63, t64, t65, t66, t67, t68, t69, t70, t71, t72, t73, t74, t75, t76, t77, t78, t79, t80, t81, t82, t83, t84, t85, t86, t87, t88, t89, t90, t91, t92, t93, t94, t95, t96, t97, t98, t99, t100, t101, t102, rfl⟩
end Go.Proofs.YtoedeedoecdajaaDoor
