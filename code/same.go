package code

import (
	"slices"

	"midden/api"
)

// What a kind that is none has is named nowhere: two of one such kind are alike.

func sameInfo(a, b api.Info) bool {
	if a.Kind == api.KFun || a.Kind == api.KThunk {
		return a == b
	}
	return a.Kind == b.Kind
}

// sameInsn holds B against B whatever the Op is: each instruction says how many locals there are.
func sameInsn(a, b api.Insn) bool {
	if a.Op != b.Op || a.B != b.B {
		return false
	}
	switch a.Op {
	case api.ILet:
		return slices.EqualFunc(a.Makes, b.Makes, sameMake)
	case api.ICall, api.IPrim:
		return a.A == b.A && slices.Equal(a.List, b.List)
	case api.IRet:
		return a.A == b.A
	case api.ICase:
		return a.A == b.A && slices.Equal(a.List, b.List) && slices.Equal(a.Keep, b.Keep)
	case api.IArms:
		return slices.EqualFunc(a.Arms, b.Arms, sameArm)
	}
	return true
}

func sameMake(a, b api.Make) bool {
	if a.Kind != b.Kind {
		return false
	}
	switch a.Kind {
	case api.KCon, api.KFun, api.KThunk:
		return a.Info == b.Info && slices.Equal(a.From, b.From)
	case api.KInt:
		return a.N == b.N
	case api.KSel:
		return a.Info == b.Info && a.N == b.N && slices.Equal(a.From, b.From)
	}
	return true
}

func sameArm(a, b api.Arm) bool {
	if a.Kind != b.Kind {
		return false
	}
	switch a.Kind {
	case api.ACon:
		return a.Con == b.Con && a.To == b.To
	case api.AInt:
		return a.N == b.N && a.To == b.To
	case api.AAll:
		return a.To == b.To
	}
	return true
}
