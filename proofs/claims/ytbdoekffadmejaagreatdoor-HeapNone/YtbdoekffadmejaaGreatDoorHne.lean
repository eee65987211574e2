/- Package heap: the small collection of the law HeapNone: the plain values. -/
import Derived.Test.YtbdoekffadmejaaGreatDoorHnd
namespace Go.Proofs.YtbdoekffadmejaaGreatDoor
open Go.RowKit
set_option maxRecDepth 100000
def awC : Cf := ⟨2, 1, 9, 2, 0⟩
def aw0 : Hs := Hs.new awC
def aw1 : Hs := aw0.lays 10 0 1 0 [0] []
def aw2 : Hs := (begS aw1 1).1
def awK2 : Wk := (begS aw1 1).2
def aw3 : Hs := aw2.went 64 1 0
def awK3 : Wk := { awK2 with fresh := awK2.fresh ++ [aw2.layA 1 0 (szW aw2.xs 64)] }
def awF : Hs := enS { aw3 with f := frN aw3.c.b aw3.f awK3.old } (chL aw3 awK3 aw3.c.g)
def aw5 : Hs := awF.lays 2 0 0 1 [] [7]
def aw6 : Hs := aw5.sets 128 0 64
theorem aw_c : awC.Ok := ⟨by decide, by decide, by decide, by decide, by decide⟩
theorem aw_w0 : wrongE aw0 10 0 1 0 [0] 0 = 0 := by decide +kernel
theorem aw_e0 : aw0.layE 0 0 (1 + 1 + 0) = 0 := by decide +kernel
theorem aw_a0 : aw0.layA 0 0 (1 + 1 + 0) = 64 := by decide +kernel
theorem aw_s1 : (aw1.sp 0 0).l = [(64, 2)] := by decide +kernel
theorem aw_i2 : isC aw2 64 = false := by decide +kernel
theorem aw_v2 : awK2.av 64 = some (0, 0) := by decide +kernel
theorem aw_m2 : mvd aw2 awK2 64 = none := by decide +kernel
theorem aw_n2 : nxt aw2.c (0, 0) 0 = (1, 0) := by decide +kernel
theorem aw_s2 : (aw2.sp 1 0).l = [] := by decide +kernel
theorem aw_e2 : aw2.layE 1 0 (szW aw2.xs 64) = 0 := by decide +kernel
theorem aw_a2 : aw2.layA 1 0 (szW aw2.xs 64) = 128 := by decide +kernel
theorem aw_f2 : awK2.fresh = [] := by decide +kernel
theorem aw_ch : chL aw3 awK3 aw3.c.g = [128] := by decide +kernel
theorem aw_as : (chL aw3 awK3 aw3.c.g).any (asd aw3 awK3) = false := by decide +kernel
theorem aw_old : awK3.old.map (fun S => S.l) = [[(64, 2)]] := by decide +kernel
theorem aw_z : ∀ j, j ≤ 1 → frN aw3.c.b aw3.f (awK3.old.take j) 0 ≠ -1 := by decide +kernel
theorem aw_w4 : wrongE awF 2 0 0 1 [] 1 = 0 := by decide +kernel
theorem aw_s4 : (awF.sp 0 0).l = [] := by decide +kernel
theorem aw_e4 : awF.layE 0 0 (1 + 0 + 1) = 0 := by decide +kernel
theorem aw_a4 : awF.layA 0 0 (1 + 0 + 1) = 64 := by decide +kernel
theorem aw_p5 : putE aw5 128 0 64 = 0 := by decide +kernel
theorem aw_l6 : Rm.allS aw6.c.g aw6.L 1 = [128] := by decide +kernel
theorem aw_c6 : isC aw6 128 = true := by decide +kernel
theorem aw_x6 : ptrW aw6.xs (128 + 1 + 0) = 64 := by decide +kernel
theorem aw_h6 : Wo.unP (Bp.Ar.readW aw6.xs 128) = 1 := by decide +kernel
end Go.Proofs.YtbdoekffadmejaaGreatDoor
