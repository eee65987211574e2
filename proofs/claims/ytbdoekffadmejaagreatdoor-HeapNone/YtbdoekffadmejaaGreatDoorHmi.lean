/- Package heap: the lists' calls with their frames; how many steps; empty spaces. -/
import Derived.Test.YtbdoekffadmejaaGreatDoorHmh
import Derived.Test.YtbdoekffadmejaaGreatDoorRmd
import Derived.Test.YtbdoekffadmejaaGreatDoorBpf
import Derived.Maps.AppendAt
namespace Go.Proofs.YtbdoekffadmejaaGreatDoor
open Go.RowKit
open Go.Maps (Keyed int_keyed)
set_option linter.unusedVariables false
set_option linter.unusedSimpArgs false
set_option maxRecDepth 100000

/-! ### The lists -/
section
variable {w : World} {γ : Nat → Tg} {b : Bool} {l n : Nat} {L : Nat → List Int}
theorem put_li (h : LiM b w γ l n L) (gen x : Int) : Calls Tryz.prog 127 #[pt l, .int .i64 gen, .int .i64 x] w fun e w' => e = .returned (.int .i64 (Rm.flt n gen x)) ∧ LiM b w' γ l n (Rm.putS n L gen x) ∧ Fr (fun t => t = .lm b) w w' γ γ := by
  obtain ⟨sb, m, h, t1, t2, t3⟩ := h
  refine (Rm.put_any h gen x).mono ?_
  rintro e w' ⟨rfl, h2, _, T⟩
  refine ⟨rfl, ⟨sb, m, h2, t1, t2, t3⟩, ?_⟩
  rcases T with rfl | ⟨i, hi, G⟩
  · exact Fr.refl _ _ _
  · exact Fr.one G (t3 i hi)
theorem drop_li (h : LiM b w γ l n L) (gen x : Int) : Calls Tryz.prog 139 #[pt l, .int .i64 gen, .int .i64 x] w fun e w' => e = .returned (.int .i64 (Rm.flt n gen x)) ∧ LiM b w' γ l n (Rm.dropS n L gen x) ∧ Fr (fun t => t = .lm b) w w' γ γ := by
  obtain ⟨sb, m, h, t1, t2, t3⟩ := h
  refine (Rm.drop_any h gen x).mono ?_
  rintro e w' ⟨rfl, h2, _, T⟩
  refine ⟨rfl, ⟨sb, m, h2, t1, t2, t3⟩, ?_⟩
  rcases T with rfl | ⟨i, hi, G⟩
  · exact Fr.refl _ _ _
  · exact Fr.one G (t3 i hi)
theorem all_li (h : LiM b w γ l n L) (gen : Int) : Calls Tryz.prog 53 #[pt l, .int .i64 gen] w fun e w' => ∃ v, e = .returned v ∧ w'.ownsRow w.heap.size 3 1 v (Rm.allS n L gen).length (Rm.ints (Rm.allS n L gen)) ∧ (v = .slice none 0 0 ↔ Rm.allS n L gen = []) ∧ Below w.heap.size w w' := by
  obtain ⟨sb, m, h, t1, t2, t3⟩ := h
  exact Rm.all_any h gen
theorem take_li (h : LiM b w γ l n L) (gen : Int) : Calls Tryz.prog 130 #[pt l, .int .i64 gen] w fun e w' => ∃ v, e = .returned v ∧ ∃ γ', LiM b w' γ' l n (Rm.takeS n L gen) ∧ Fr (fun t => t = .lr b) w w' γ γ' := by
  obtain ⟨sb, m, h, t1, t2, t3⟩ := h
  refine (Rm.take_any h (Nat.zero_le _) gen).mono ?_
  rintro e w' ⟨v, m', rfl, _, h2, _, G, M⟩
  let γ' : Nat → Tg := fun k => if w.heap.size ≤ k then .lm b else γ k
  have old : ∀ k, k < w.heap.size → γ' k = γ k := fun k hk => if_neg (by omega)
  have F : Fr (fun t => t = .lr b) w w' γ γ' := (Fr.one G t2).retag old
  refine ⟨v, rfl, γ', ⟨sb, m', h2, (old _ (lt_of h.box)).trans t1, (old _ (lt_of h.sets)).trans t2, fun i hi => ?_⟩, F⟩
  by_cases q : w.heap.size ≤ m' i
  · exact if_pos q
  · rcases M i with e | e
    · rw [old _ (by omega), e]; exact t3 i hi
    · exact absurd e q
end

/-! ### Steps, empty spaces -/
theorem steps_any {w : World} {h : Nat} {c : Cf} (cg : w.cell? ⟨h, 0, none⟩ = some (.int .i64 c.g)) (cs : w.cell? ⟨h, 1, none⟩ = some (.int .i64 c.s)) (ok : c.Ok) (g : Nat) (hg : g < c.g) :
    Calls Tryz.prog 125 #[pt h, .int .i64 g] w fun e w' => e = .returned (.int .i64 (c.n g)) ∧ w' = w := by
  have o := ok.g
  by_cases q : g + 1 = c.g
  · have e : c.n g = 1 := by unfold Cf.n; rw [if_pos q]
    have q2 : (g : Int) = (c.g : Int) - 1 := by omega
    rw [e]
    clear ok e q
    generalize c.g = cg0 at *
    generalize c.s = cs0 at *
    go_enter Tryz.func125, Tryz.ntmps125
    go_wp2
    go_ret
    exact ⟨rfl, rfl⟩
  · have e : c.n g = c.s := by unfold Cf.n; rw [if_neg q]
    have q2 : ¬ (g : Int) = (c.g : Int) - 1 := by omega
    rw [e]
    clear ok e q
    generalize c.g = cg0 at *
    generalize c.s = cs0 at *
    go_enter Tryz.func125, Tryz.ntmps125
    go_wp2
    go_ret
    exact ⟨rfl, rfl⟩
theorem row_later {w w' : World} {base size n : Nat} {e : TypeId} {v : Value} {xs : List Value} (h : w.ownsRow base e size v n xs) (B : Below w.heap.size w w') : w'.ownsRow base e size v n xs := Bp.ownsRow_same h (fun k q => B.block k (h.lt k q).2)
theorem info100 : (Tryz.prog.info? 100).map (fun i => (i.zero, i.size, i.bytes)) = some (some (.pointer none), 1, 8) := by kernel_rfl
def pts (σ : Nat → Nat) (n : Nat) : List Value := (List.range n).map fun s => pt (σ s)
theorem pts_next (σ : Nat → Nat) (n b : Nat) : pts σ n ++ [pt b] = pts (fun s => if s = n then b else σ s) (n + 1) := by
  unfold pts
  rw [List.range_succ, List.map_append]
  congr 1
  · refine List.map_congr_left (fun s hs => ?_)
    have : ¬ s = n := by have := List.mem_range.1 hs; omega
    simp only [this, if_false]
  · simp
/-- Empty spaces in the making. -/
structure Ek (w W : World) (p a : Nat) (v : Value) (n : Nat) (σ m : Nat → Nat) : Prop where
  row : W.ownsRow w.heap.size 100 1 v n (pts σ n)
  sps : ∀ s, s < n → Bp.Sp W (σ s) p a (m s) Bp.nilS Bp.S0.none
  news : ∀ s, s < n → w.heap.size ≤ σ s ∧ w.heap.size ≤ m s
  injs : ∀ s t, s < n → t < n → σ s = σ t → s = t
  injm : ∀ s t, s < n → t < n → m s = m t → s = t
  bel : Below w.heap.size w W
theorem Ek.start (w : World) (p a : Nat) : Ek w w p a (.slice none 0 0) 0 (fun _ => 0) (fun _ => 0) :=
  ⟨World.ownsRow_nil _ _ _ _, fun s h => absurd h (Nat.not_lt_zero _), fun s h => absurd h (Nat.not_lt_zero _), fun s t h => absurd h (Nat.not_lt_zero _), fun s t h => absurd h (Nat.not_lt_zero _), Below.refl _ _⟩
theorem own_kind {w : World} {base n : Nat} {e : TypeId} {v : Value} {xs : List Value} (h : w.ownsRow base e 1 v n xs) {k : Nat} (hk : v.ownBlock = some k) : ∃ cs, w.heap[k]? = some (.cells cs e (0, 0)) := by
  rcases h.2 with ⟨rfl, _⟩ | ⟨g, cap, cur, rfl, hb, hg, X⟩
  · cases hk
  · cases hk; exact ⟨_, hg⟩
theorem VM.block {k : TypeId} {w : World} {m n : Nat} {f : Lit → Option Value} (h : Bp.VM k w m n f) : ∃ es c, w.heap[m]? = some (.map es c) := by
  obtain ⟨D, ⟨es, clock, hb, r⟩, q⟩ := h
  exact ⟨es, clock, hb⟩
theorem Sp.mapb {w : World} {s p a m : Nat} {v : Value} {S : Bp.S0} (h : Bp.Sp w s p a m v S) : ∃ es c, w.heap[m]? = some (.map es c) := by
  obtain ⟨n, g, _, M, _⟩ := h.map; exact VM.block M
/-- One space more. -/
theorem Ek.next {w W W1 W2 : World} {p a n s m : Nat} {v v' : Value} {σ μ : Nat → Nat} (h : Ek w W p a v n σ μ) (hs : W.heap.size ≤ s) (hm : W.heap.size ≤ m) (S : Bp.Sp W1 s p a m Bp.nilS Bp.S0.none) (B : Below W.heap.size W W1)
    (r : W2.ownsRow w.heap.size 100 1 v' (n + 1) (pts σ n ++ [pt s])) (G : (W1.alloc (.cells #[pt s] 100)).grownBy W2 v.ownBlock) :
    Ek w W2 p a v' (n + 1) (fun t => if t = n then s else σ t) (fun t => if t = n then m else μ t) := by
  have hk : ∀ k, v.ownBlock = some k → ∃ cs, W1.heap[k]? = some (.cells cs 100 (0, 0)) := fun k e => by
    obtain ⟨cs, q⟩ := own_kind h.row e
    exact ⟨cs, (B.block k (lt_of q)).trans q⟩
  have b2 : ∀ k, k < W1.heap.size → v.ownBlock ≠ some k → W2.heap[k]? = W1.heap[k]? := fun k hk hx => (G.block k (by simp; omega) (fun e => hx e.symm)).trans (Below.heap_alloc _ _ _ hk)
  have same : ∀ (t μ0 : Nat), Bp.Sp W1 t p a μ0 Bp.nilS Bp.S0.none → Bp.Sp W2 t p a μ0 Bp.nilS Bp.S0.none := by
    intro t μ0 q
    refine q.same ?_
    rintro k (rfl | rfl | e)
    · refine b2 _ (lt_of q.box) (fun e => ?_)
      obtain ⟨cs, r⟩ := hk _ e
      rw [q.box] at r
      simp only [Option.some.injEq, Obj.cells.injEq] at r
      exact absurd r.2.1 (by decide)
    · obtain ⟨es, c, q2⟩ := Sp.mapb q
      refine b2 _ (lt_of q2) (fun e => ?_)
      obtain ⟨cs, r⟩ := hk _ e
      rw [q2] at r
      cases r
    · cases e
  have so := fun t (ht : t < n) => (lt_of (h.sps t ht).box)
  have mo := fun t (ht : t < n) => (by obtain ⟨es, c, q2⟩ := Sp.mapb (h.sps t ht); exact lt_of q2 : μ t < W.heap.size)
  have hsz := h.bel.size
  refine ⟨by rw [← pts_next]; exact r, fun t ht => ?_, fun t ht => ?_, fun t u ht hu e => ?_, fun t u ht hu e => ?_, ?_⟩
  · by_cases q : t = n
    · simp only [q, if_true]; exact same _ _ S
    · simp only [q, if_false]; exact same _ _ ((h.sps t (by omega)).later B)
  · by_cases q : t = n
    · simp only [q, if_true]; omega
    · simp only [q, if_false]; exact h.news t (by omega)
  · by_cases q : t = n <;> by_cases q2 : u = n
    · omega
    · simp only [q, q2, if_true, if_false] at e; have := so u (by omega); omega
    · simp only [q, q2, if_true, if_false] at e; have := so t (by omega); omega
    · simp only [q, q2, if_false] at e; exact h.injs t u (by omega) (by omega) e
  · by_cases q : t = n <;> by_cases q2 : u = n
    · omega
    · simp only [q, q2, if_true, if_false] at e; have := mo u (by omega); omega
    · simp only [q, q2, if_true, if_false] at e; have := mo t (by omega); omega
    · simp only [q, q2, if_false] at e; exact h.injm t u (by omega) (by omega) e
  · have B2 := h.bel.trans (B.mono hsz)
    have B3 := B2.alloc B2.size (.cells #[pt s] 100)
    exact B3.grown G B3.size (fun k e => (h.row.lt k e).1)
set_option maxHeartbeats 1000000 in
theorem spaces_new {w : World} {h p a : Nat} {c : Cf} (cg : w.cell? ⟨h, 0, none⟩ = some (.int .i64 c.g)) (cs : w.cell? ⟨h, 1, none⟩ = some (.int .i64 c.s)) (cp : w.cell? ⟨h, 5, none⟩ = some (pt p)) (ca : w.cell? ⟨h, 6, none⟩ = some (pt a)) (ok : c.Ok) (g : Nat) (hg : g < c.g) :
    Calls Tryz.prog 92 #[pt h, .int .i64 g] w fun e w' => ∃ v σ m, e = .returned v ∧ Ek w w' p a v (c.n g) σ m := by
  have ST := steps_any cg cs ok g hg
  have n3 := ok.n g
  have hl : h < w.heap.size := World.block_lt_of_cell? _ _ cp
  obtain ⟨i0, hi, hz0, hz1, hz2⟩ := info_parts info100
  have NS := fun W => Bp.newS_ok W p a
  have HE := Hid.mk (Ek.start w p a)
  generalize c.n g = n at *
  clear cg cs ok hg
  go_enter Tryz.func92, Tryz.ntmps92
  go_wp2_with (go_at_call 125; refine ST.mono ?_; rintro e w1 ⟨rfl, hw⟩; rw [hw]; clear hw)
  go_loopw [5, 11] (fun v' i' wr => ∃ (j : Nat) (σ m : Nat → Nat), i' = .int .i64 j ∧ j ≤ n ∧ Hid (Ek w wr p a v' j σ m)) (fun _ i' _ => n - (RowKit.intOf i').toNat)
  case atStart => exact ⟨0, _, _, rfl, Nat.zero_le _, HE⟩
  case round =>
    obtain ⟨j, σ, m, rfl, hj, HR⟩ := hrel
    by_cases hlt : j < n
    · have hlt' : (j : Int) < n := by omega
      have cp1 := (HR.out.bel.cell (p := ⟨h, 5, none⟩) hl).trans cp
      have ca1 := (HR.out.bel.cell (p := ⟨h, 6, none⟩) hl).trans ca
      go_wp2
      go_region_held3 (fun wx => wx.cell? ⟨h, 5, none⟩ = some (pt p) ∧ wx.cell? ⟨h, 6, none⟩ = some (pt a)) (go_keep) (first | (go_at_call 146; refine (NS _).mono ?_; rintro e w1 ⟨s, m1, rfl, hs, hm, S, B⟩; have cp2 := (B.cell (p := ⟨h, 5, none⟩) (by have := HR.out.bel.size; simp; omega)).trans cp1; have ca2 := (B.cell (p := ⟨h, 6, none⟩) (by have := HR.out.bel.size; simp; omega)).trans ca1; have HS := Hid.mk S; have HB := Hid.mk (show Below wr.heap.size wr w1 from (below_drew1 wr).trans B); have hs' : wr.heap.size ≤ s := hs; have hm' : wr.heap.size ≤ m1 := hm; clear S B))
      go_wp2_with (at_builtin; refine wpList_append_own _ rfl _ _ 113 rfl w.heap.size 100 i0 _ 1 8 Tryz.underlying113 hi hz0 hz1 hz2 rfl (by decide) _ _ _ rfl (row_later HR.out.row (HB.out.alloc HB.out.size _)) ⟨_, 0, none⟩ 1 1 [_] rfl rfl (cell_one_new _ _ _) (by simp [Value.oneCell']) (by unfold maxLen; omega) (by omega) (by have := HR.out.bel.size; have := HB.out.size; simp; omega) ?_; intro v2 w2 ho hg hnil)
      have HN := HR.out.next hs' hm' HS.out HB.out ho hg
      go_roundw
      case rel => exact ⟨j + 1, _, _, by go_num, by omega, ⟨HN⟩⟩
      case measure => simp [RowKit.intOf]; omega
    · obtain rfl : n = j := by omega
      go_wp2
      go_ret
      exact ⟨_, _, _, rfl, HR.out⟩
end Go.Proofs.YtbdoekffadmejaaGreatDoor
