/- All calls of both stacks, and the law's walk. -/
import Derived.Test.YtglimbpnekephaaDoorDsi
import Derived.Test.YtglimbpnekephaaDoorOpn
import Derived.Deep.DeepMust
namespace Go.Proofs.YtglimbpnekephaaDoor
open Go.RowKit
set_option linter.unusedVariables false
set_option linter.unusedSimpArgs false

theorem do_any {w0 w : World} {p a b F N d base : Nat} {ws : List Int} {rs : List Fr} {v : Value} {l : List Fp} (h : Bo w0 w p a b F N d base ws rs v l) (T : Table w0) (H : Wh w0 p a b d base) (k n : Int) (f : Fr) (o : Option Addr) (cap : Nat) (P : PS w0 o cap f.ps) (hn : In64 n) :
    Calls Tryd.prog 11 #[.pointer (some ⟨p, 0, none⟩), .pointer (some ⟨d, 0, none⟩), av k n f o cap] w fun e w' => e = .returned (.bool true) ∧ Fin w0 w' p a b F N d base := by
  by_cases h0 : k = 0 ∨ k = 1
  · exact do_push h T H k n f o cap P h0
  · by_cases h2 : k = 2
    · subst h2
      exact do_pop h H n f o cap
    · exact do_map h H k n f o cap ⟨fun e => h0 (.inl e), fun e => h0 (.inr e), h2⟩ hn
theorem bx31 {w : World} {N : Int} : Bx (w.alloc (.cells #[.int .i64 N, .slice none 0 0] 31)) w.heap.size #[.int .i64 N, .slice none 0 0] 31 := heap_alloc_new _ _
theorem ds_new {w w2 : World} {N : Nat} (B : Below (w.alloc (.cells #[.int .i64 (N : Int), .slice none 0 0] 31)).heap.size (w.alloc (.cells #[.int .i64 (N : Int), .slice none 0 0] 31)) w2) : Ds w2 w.heap.size (w.heap.size + 1) (N : Int) (.slice none 0 0) [] :=
  (show Ds (w.alloc (.cells #[.int .i64 (N : Int), .slice none 0 0] 31)) w.heap.size (w.heap.size + 1) (N : Int) (.slice none 0 0) [] from ⟨bx31, Rw.nil _ _, fun x hx => absurd hx (by simp), List.Pairwise.nil⟩).later B
set_option maxRecDepth 100000 in
set_option maxHeartbeats 4000000 in
theorem does_walk (l : List Ac) (a0 : Int) (ha : 0 ≤ a0 ∧ a0 ≤ 65535) (sv : Value) (w : World) (T : Table w) (L : Lst w 6 (isAc w) l sv) : Calls Tryd.prog 3 #[.int .u16 a0, sv] w fun e w' => e = .returned (.bool true) ∧ Below w.heap.size w w' := by
  have HL := Hid.mk L
  obtain ⟨ga, cap, rfl, hc, hcc⟩ := L
  obtain ⟨n, hn⟩ : ∃ n, l.length = n := ⟨_, rfl⟩
  have HN := Hid.mk hn
  rw [hn] at hc ⊢
  have hc1 := hc.1
  have hc2 := hc.2
  have HT := Hid.mk T
  clear hn hc T hcc
  obtain ⟨ha1, ha2⟩ := ha
  obtain ⟨N, hN⟩ : ∃ N : Nat, a0 % 300 + 1 = (N : Int) := ⟨(a0 % 300 + 1).toNat, by omega⟩
  have hN1 : 1 ≤ N ∧ N ≤ 300 := by omega
  have MK := made_ok N w hN1.1 (by omega)
  have AW := fun W (B : Below w.heap.size w W) => awake_any W (HT.out.later B)
  go_enter Tryd.func3, Tryd.ntmps3
  go_wp2_with (first
    | (go_at_call 9; generalize a0 % 300 + 1 = zz at *; subst hN; refine MK.mono ?_; clear MK; rintro e w1 ⟨p, a, b, ws0, rfl, M1⟩; have A1 := AW (w1.alloc (.cells #[.int .i64 (N : Int), .slice none 0 0] 31)) (belowOn M1.bel (by go_grown)); have HM := Hid.mk M1; clear M1 AW)
    | (go_at_call 10; refine A1.mono ?_; clear A1; rintro e w2 ⟨rfl, B2⟩))
  obtain ⟨base, hbase⟩ : ∃ x, x = w1.heap.size + 1 := ⟨_, rfl⟩
  have s2 : w1.heap.size + 1 ≤ w2.heap.size := by have := B2.size; simpa using this
  obtain ⟨pl, al, bl⟩ := HM.out.s.lt
  have b12 : Below w1.heap.size w1 w2 := belowOn (by go_grown) B2
  have HW : Hid (Wh w p a b w1.heap.size base) := ⟨⟨HM.out.hp, HM.out.ha, HM.out.hb, HM.out.bel.size, by omega, by omega, by omega, by omega⟩⟩
  have P0 : Hid (Fin w w2 p a b 5 N w1.heap.size base) := ⟨⟨_, _, _, _, ⟨HM.out.s.later b12, by rw [hbase]; exact ds_new B2, rfl, fun x hx => absurd hx (by simp), by omega, belowOn HM.out.bel b12⟩⟩⟩
  clear B2 HM hbase s2 pl al bl b12
  generalize w1.heap.size = d at *
  go_loopw [9] (fun cv wx => ∃ i : Nat, cv = .int .i64 i ∧ i ≤ n ∧ i ≤ 100 ∧ Hid (Fin w wx p a b 5 N d base)) (fun cv _ => n - (intOf cv).toNat)
  case atStart => exact ⟨0, rfl, Nat.zero_le _, by omega, P0⟩
  case round =>
    clear P0
    obtain ⟨i, rfl, hi1, hi2, HP⟩ := hrel
    by_cases hlt2 : i < n ∧ i < 100
    · have kl : i < l.length := by rw [HN.out]; exact hlt2.1
      obtain ⟨g, off, cap', c, e, _, _, pc, hx⟩ := HL.out.get i kl
      rw [HN.out] at e
      simp only [Value.slice.injEq] at e
      obtain ⟨rfl, hq8, rfl⟩ := e
      clear hq8
      obtain ⟨o, fc, rfl, PF, hn6⟩ := pc
      obtain ⟨ws, rs, v, m, BO⟩ := HP.out
      have hx' : ∀ j u, _ → wr.cell? ⟨g, off + i * 6 + j, none⟩ = some u := fun j u h => (BO.bel.cell (p := ⟨g, off + i * 6 + j, none⟩) (World.block_lt_of_cell? _ _ (hx j u h))).trans (hx j u h)
      have c0 : wr.cell? ⟨g, off + i * 6, none⟩ = some (.int .i64 (l[i]'kl).k) := hx' 0 _ rfl
      have c1 : wr.cell? ⟨g, off + i * 6 + 1, none⟩ = some (.int .i64 (l[i]'kl).n) := hx' 1 _ rfl
      have c2 : wr.cell? ⟨g, off + i * 6 + 2, none⟩ = some (.int .i64 (l[i]'kl).f.k) := hx' 2 _ rfl
      have c3 : wr.cell? ⟨g, off + i * 6 + 3, none⟩ = some (.int .i64 (l[i]'kl).f.a) := hx' 3 _ rfl
      have c4 : wr.cell? ⟨g, off + i * 6 + 4, none⟩ = some (.int .i64 (l[i]'kl).f.b) := hx' 4 _ rfl
      have c5 : wr.cell? ⟨g, off + i * 6 + 5, none⟩ = some (.slice o (l[i]'kl).f.ps.length fc) := hx' 5 _ rfl
      have DO := do_any BO HT.out HW.out (l[i]'kl).k (l[i]'kl).n (l[i]'kl).f o fc PF hn6
      unfold av at DO
      generalize l[i]'kl = x at *
      have lt1 : (i : Int) < n := by omega
      have lt2 : (i : Int) < 100 := by omega
      clear hx hx' PF hn6 BO
      go_wp2_with (first
        | (go_at_call 11; refine DO.mono ?_; clear DO; rintro e w7 ⟨rfl, F7⟩; have HF7 := Hid.mk F7; clear F7)
        | (go_at_call 12; obtain ⟨ws7, rs7, v7, l7, B7⟩ := HF7.out; refine (told_any B7.s B7.D B7.e).mono ?_; rintro e w8 ⟨rfl, B8⟩; have HF8 : Hid (Fin w w8 p a b 5 N d base) := ⟨⟨_, _, _, _, B7.later B8⟩⟩; clear B7 B8))
      exact ⟨⟨i + 1, by go_num, by omega, by omega, HF8⟩, by simp [intOf]; omega⟩
    · have HB : Hid (Below w.heap.size w wr) := ⟨by obtain ⟨ws, rs, v, m, BO⟩ := HP.out; exact BO.bel⟩
      by_cases hin : i < n
      · obtain rfl : i = 100 := by omega
        have lt1 : ((100 : Nat) : Int) < n := by omega
        have lt3 : (100 : Int) < n := by omega
        go_wp2
        go_ret
        exact ⟨rfl, HB.out⟩
      · obtain rfl : i = n := by omega
        go_wp2
        go_ret
        exact ⟨rfl, HB.out⟩
end Go.Proofs.YtglimbpnekephaaDoor
