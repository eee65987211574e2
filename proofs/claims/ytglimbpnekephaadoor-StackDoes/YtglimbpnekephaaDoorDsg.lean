/- Both stacks at once: what stays where one of them turns; Push of both. -/
import Derived.Test.YtglimbpnekephaaDoorDsf
namespace Go.Proofs.YtglimbpnekephaaDoor
open Go.RowKit
set_option linter.unusedVariables false
set_option linter.unusedSimpArgs false

theorem ne_kind {w : World} {m k : Nat} {c1 c2 : Array Value} {t1 t2 : TypeId} {z1 z2 : Nat × Nat} (h1 : w.heap[m]? = some (.cells c1 t1 z1)) (h2 : w.heap[k]? = some (.cells c2 t2 z2)) (ne : t1 ≠ t2) : m ≠ k := fun e => by
  subst e; rw [h1] at h2; cases h2; exact ne rfl
theorem row36 {w : World} {base : Nat} {v : Value} {l : List Fp} (R : Rw w base v l) : ∀ k, v.ownBlock = some k → ∃ cs, w.heap[k]? = some (.cells cs 36 (0, 0)) := fun k e => by
  rcases R.2 with ⟨hn, _⟩ | ⟨g, cap, cur, hv, hb, hgg, _⟩
  · rw [hn] at e; simp [Value.ownBlock] at e
  · rw [hv] at e; simp [Value.ownBlock] at e; subst e; exact ⟨cur, hgg⟩
theorem kp_bx {w w' : World} {p a b F N k : Nat} {ws : List Int} {rs : List Fr} (h : Ss w p a b ws F N k rs) (K : Kp p b w w') {m : Nat} {cs : Array Value} {t : TypeId} {z : Nat × Nat} (Y : w.heap[m]? = some (.cells cs t z)) (n1 : t ≠ 76) (n2 : t ≠ 50) : w'.heap[m]? = some (.cells cs t z) :=
  (K.block m (Array.getElem?_eq_some_iff.1 Y).1 (ne_kind Y h.stk.box n1) (ne_kind Y h.stk.ar.words n2)).trans Y
theorem kq_bx {w w' : World} {d base : Nat} {n : Int} {v : Value} {l : List Fp} (h : Ds w d base n v l) (K : Kq d v w w') {m : Nat} {cs : Array Value} {t : TypeId} {z : Nat × Nat} (Y : w.heap[m]? = some (.cells cs t z)) (n1 : t ≠ 31) (n2 : t ≠ 36) : w'.heap[m]? = some (.cells cs t z) :=
  (K.block m (Array.getElem?_eq_some_iff.1 Y).1 (ne_kind Y h.box n1) (fun e => by obtain ⟨c, hc⟩ := row36 h.R m e; exact ne_kind Y hc n2 rfl)).trans Y
theorem Ds.kp {w w' : World} {p a b F N k d base : Nat} {ws : List Int} {rs : List Fr} {n : Int} {v : Value} {l : List Fp} (h : Ds w d base n v l) (S : Ss w p a b ws F N k rs) (K : Kp p b w w') (hp : p < base) (hb : b < base) : Ds w' d base n v l :=
  ⟨kp_bx S K h.box (by decide) (by decide), h.R.kept K hp hb, fun x hx => (h.q x hx).same fun m cs hm => (kp_bx S K hm (by decide) (by decide)).trans hm.symm, h.ap⟩
theorem Ss.kq {w w' : World} {p a b F N k d base : Nat} {ws : List Int} {rs : List Fr} {n : Int} {v : Value} {l : List Fp} (S : Ss w p a b ws F N k rs) (h : Ds w d base n v l) (K : Kq d v w w') : Ss w' p a b ws F N k rs :=
  ⟨S.stk.same ((kq_bx h K S.stk.box (by decide) (by decide)).trans S.stk.box.symm) ((kq_bx h K S.stk.ar.box (by decide) (by decide)).trans S.stk.ar.box.symm) ((kq_bx h K S.stk.ar.words (by decide) (by decide)).trans S.stk.ar.words.symm), S.ok, S.eq⟩
theorem Kq.below {d base m : Nat} {n : Int} {v : Value} {l : List Fp} {w u u' : World} (B : Below m w u) (h : Ds u d base n v l) (K : Kq d v u u') (hm : m ≤ u.heap.size) (hd : m ≤ d) (hb : m ≤ base) : Below m w u' :=
  ⟨K.os.trans B.os, K.tape.trans B.tape, K.output.trans B.output, Nat.le_trans B.size K.size, fun k hk => (K.block k (by omega) (by omega) (fun e => by have := (h.R.lt k e).1; omega)).trans (B.block k hk)⟩
/-- both stacks, over a world of old -/
structure Bo (w0 w : World) (p a b F N d base : Nat) (ws : List Int) (rs : List Fr) (v : Value) (l : List Fp) : Prop where
  s : Ss w p a b ws F N 0 rs
  D : Ds w d base (N : Int) v l
  e : l.map Fp.f = rs.reverse
  pr : ∀ x ∈ l, ∀ ad, x.o = some ad → w0.heap.size ≤ ad.block
  bw : base ≤ w.heap.size
  bel : Below w0.heap.size w0 w
/-- where they lie -/
structure Wh (w0 : World) (p a b d base : Nat) : Prop where
  p1 : w0.heap.size ≤ p
  a1 : w0.heap.size ≤ a
  b1 : w0.heap.size ≤ b
  d1 : w0.heap.size ≤ d
  p2 : p < base
  a2 : a < base
  b2 : b < base
  d2 : d < base
def Fin (w0 w : World) (p a b F N d base : Nat) : Prop := ∃ ws rs v l, Bo w0 w p a b F N d base ws rs v l
theorem Bo.le {w0 w : World} {p a b F N d base : Nat} {ws : List Int} {rs : List Fr} {v : Value} {l : List Fp} (h : Bo w0 w p a b F N d base ws rs v l) : usedN l = (wd rs).length ∧ (wd rs).length ≤ N ∧ N ≤ 65536 ∧ l.length ≤ 65536 ∧ l.length = rs.length := by
  have hu : usedN l = (wd rs).length := by rw [usedN_wd, h.e, List.reverse_reverse]
  have ll : l.length = rs.length := by have := congrArg List.length h.e; simpa using this
  have := rs_len rs
  have := h.s.stk.un
  have := h.s.stk.nn
  exact ⟨hu, by omega, by omega, by omega, ll⟩
theorem Bo.later {w0 w w' : World} {p a b F N d base : Nat} {ws : List Int} {rs : List Fr} {v : Value} {l : List Fp} (h : Bo w0 w p a b F N d base ws rs v l) (B : Below w.heap.size w w') : Bo w0 w' p a b F N d base ws rs v l :=
  ⟨h.s.later B, h.D.later B, h.e, h.pr, Nat.le_trans h.bw B.size, belowOn h.bel B⟩
theorem off_low {w0 : World} {o : Option Addr} {cap q : Nat} {ps : List Int} (P : PS w0 o cap ps) (h : w0.heap.size ≤ q) : 0 < ps.length → Off o q := fun h0 => by
  obtain ⟨g, off, rfl, hx⟩ := P.get 0 h0
  have := World.block_lt_of_cell? _ _ hx
  simp only at this
  intro ad e
  cases e
  simp only
  omega
theorem bx38 {w : World} {y : Nat} {c0 c1 c2 c3 c4 c5 : Value} (h : w.heap[y]? = some (.cells #[c0, c1, c2, c3, c4, c5] 38 (0, 0))) : w.cell? ⟨y, 2, none⟩ = some c2 ∧ w.cell? ⟨y, 3, none⟩ = some c3 ∧ w.cell? ⟨y, 4, none⟩ = some c4 ∧ w.cell? ⟨y, 5, none⟩ = some c5 := by
  refine ⟨?_, ?_, ?_, ?_⟩ <;> (rw [Joins.cell_of_block h]; rfl)
theorem fin_push {w0 w4 w5 : World} {p a b F N d base : Nat} {ws4 : List Int} {rs : List Fr} {v5 : Value} {l l5 : List Fp} {f : Fr} {E : Int} (H : Wh w0 p a b d base) (e : l.map Fp.f = rs.reverse) (pr : ∀ x ∈ l, ∀ ad, x.o = some ad → w0.heap.size ≤ ad.block)
    (S : Ss w5 p a b ws4 F N 0 (if E = 0 then f :: rs else rs)) (D : Ds w5 d base (N : Int) v5 l5) (L : if E = 0 then ∃ x : Fp, x.f = f ∧ l5 = l ++ [x] ∧ (∀ ad, x.o = some ad → w4.heap.size ≤ ad.block) else l5 = l)
    (b4 : base ≤ w4.heap.size) (b5 : base ≤ w5.heap.size) (B : Below w0.heap.size w0 w5) : Fin w0 w5 p a b F N d base := by
  have h1 := H.d1
  have h2 := H.d2
  by_cases E0 : E = 0
  · rw [if_pos E0] at S L
    obtain ⟨x, rfl, rfl, hx⟩ := L
    refine ⟨_, _, _, _, S, D, by simp [e], fun y hy ad ea => ?_, b5, B⟩
    rcases List.mem_append.1 hy with q | q
    · exact pr y q ad ea
    · obtain rfl := List.mem_singleton.1 q
      have := hx ad ea
      omega
  · rw [if_neg E0] at S L
    subst L
    exact ⟨_, _, _, _, S, D, e, pr, b5, B⟩
abbrev av (k n : Int) (f : Fr) (o : Option Addr) (cap : Nat) : Value := .agg #[.int .i64 k, .int .i64 n, .int .i64 f.k, .int .i64 f.a, .int .i64 f.b, .slice o f.ps.length cap]
set_option maxRecDepth 100000 in
set_option maxHeartbeats 4000000 in
theorem do_push {w0 w : World} {p a b F N d base : Nat} {ws : List Int} {rs : List Fr} {v : Value} {l : List Fp} (h : Bo w0 w p a b F N d base ws rs v l) (T : Table w0) (H : Wh w0 p a b d base) (k n : Int) (f : Fr) (o : Option Addr) (cap : Nat) (P : PS w0 o cap f.ps) (hk : k = 0 ∨ k = 1) :
    Calls Tryd.prog 11 #[.pointer (some ⟨p, 0, none⟩), .pointer (some ⟨d, 0, none⟩), av k n f o cap] w fun e w' => e = .returned (.bool true) ∧ Fin w0 w' p a b F N d base := by
  obtain ⟨hu, hl1, hN, hll, hl2⟩ := h.le
  have B0 : Below w.heap.size w (w.alloc (.cells #[.int .i64 k, .int .i64 n, .int .i64 f.k, .int .i64 f.a, .int .i64 f.b, .slice o f.ps.length cap] 38)).drew := ((Below.refl _ w).alloc (Nat.le_refl _) _).trans ⟨rfl, rfl, rfl, Nat.le_refl _, fun _ _ => rfl⟩
  have h0 := h.later B0
  have HS := Hid.mk h0.s
  have HD := Hid.mk h0.D
  have HB := Hid.mk h0.bel
  have HW := Hid.mk h0.bw
  have HX : Hid ((w.alloc (.cells #[.int .i64 k, .int .i64 n, .int .i64 f.k, .int .i64 f.a, .int .i64 f.b, .slice o f.ps.length cap] 38)).drew.heap[w.heap.size]? = some (.cells #[.int .i64 k, .int .i64 n, .int .i64 f.k, .int .i64 f.a, .int .i64 f.b, .slice o f.ps.length cap] 38 (0, 0))) := ⟨heap_alloc_new _ _⟩
  have HPU := Hid.mk (fun {W : World} {ws : List Int} (S : Ss W p a b ws F N 0 rs) (B : Below w0.heap.size w0 W) => push_any S f o cap (T.later B) (P.later B) (off_low P H.p1) (off_low P H.b1))
  have HRU := Hid.mk (fun {W : World} {v : Value} (D : Ds W d base (N : Int) v l) (B : Below w0.heap.size w0 W) (bw : base ≤ W.heap.size) => rpush_any D f o cap (P.later B) hN (by omega) hll H.d2 bw)
  have HE := Hid.mk h.e
  have HPR := Hid.mk h.pr
  have HWH := Hid.mk H
  have hsz : w0.heap.size ≤ w.heap.size := h.bel.size
  rw [hu] at HRU
  clear h h0 B0 T P hu hl1 hN hll hl2 H
  unfold av
  unfold fv at HPU HRU
  obtain ⟨E, hE⟩ : ∃ E, pushE N (wd rs).length f = E := ⟨_, rfl⟩
  simp only [hE] at HPU HRU
  have HFQ : Hid (f = f) := ⟨rfl⟩
  have HFF : Hid (∃ g : Fr, g = f) := ⟨_, rfl⟩
  rcases hk with rfl | rfl
  all_goals
    go_enter Tryd.func11, Tryd.ntmps11
    go_wp2
    go_region_held3 (fun W' => W'.cell? ⟨w.heap.size, 2, none⟩ = some (.int .i64 f.k) ∧ W'.cell? ⟨w.heap.size, 3, none⟩ = some (.int .i64 f.a) ∧ W'.cell? ⟨w.heap.size, 4, none⟩ = some (.int .i64 f.b) ∧ W'.cell? ⟨w.heap.size, 5, none⟩ = some (.slice o f.ps.length cap)) (go_keep) (first
      | (go_at_call 18; refine (HPU.out HS.out HB.out).mono ?_; rintro e w4 ⟨rfl, ⟨ws4, H4, _⟩, K4⟩; replace HD := Hid.mk (HD.out.kp HS.out K4 HWH.out.p2 HWH.out.b2); replace HB := Hid.mk (K4.below HB.out HB.out.size HWH.out.p1 HWH.out.b1); replace HW := Hid.mk (Nat.le_trans HW.out K4.size); replace HX := Hid.mk (kp_bx HS.out K4 HX.out (by decide) (by decide)); have HS4 := Hid.mk H4; obtain ⟨r2, r3, r4, r5⟩ := bx38 HX.out; clear H4 K4)
      | (go_at_call 29; refine (HRU.out HD.out HB.out HW.out).mono ?_; rintro e w5 ⟨rfl, v5, l5, H5, L5, K5⟩; (first | (replace HS4 := Hid.mk (HS4.out.kq HD.out K5)) | (replace HS := Hid.mk (HS.out.kq HD.out K5))); replace HB := Hid.mk (Kq.below HB.out HD.out K5 HB.out.size HWH.out.d1 (by have := HWH.out.d1; have := HWH.out.d2; omega)); replace HX := Hid.mk (kq_bx HD.out K5 HX.out (by decide) (by decide)); have HD5 := Hid.mk H5; have HL5 := Hid.mk L5; have HW5 := Hid.mk (Nat.le_trans HW.out K5.size); obtain ⟨r2, r3, r4, r5⟩ := bx38 HX.out; clear H5 K5 L5))
    all_goals go_wp2
    all_goals go_ret
    all_goals exact ⟨rfl, fin_push HWH.out HE.out HPR.out HS4.out HD5.out HL5.out HW.out HW5.out HB.out⟩
end Go.Proofs.YtglimbpnekephaaDoor
