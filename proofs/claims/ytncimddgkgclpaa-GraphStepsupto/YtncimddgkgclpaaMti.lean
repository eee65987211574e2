/- A meeting whose nodes are turned. -/
import Derived.Test.YtncimddgkgclpaaMth
namespace Go.Proofs.Ytncimddgkgclpaa
open Go.RowKit
set_option linter.unusedVariables false
set_option linter.unusedSimpArgs false
set_option maxRecDepth 100000

/-- a meeting's box and map -/
structure Mq (base lo : Nat) (X : Nat → Prop) (w : World) (mb mm : Nat) (lv nv : Value) (met : List Nat) : Prop where
  box : w.heap[mb]? = some (.cells #[lv, .int .i64 (-1), .map (some mm), nv] 71 (0, 0))
  map : ∃ n f, n ≤ met.length ∧ VM 3 w mm n f ∧ ∀ x, isI x → f (.int .i64 x) = mfI met x
  lo : base ≤ lo ∧ lo ≤ mb ∧ lo ≤ mm ∧ ∀ k, X k → k < lo
section
variable {base lo mb mm : Nat} {X : Nat → Prop} {w w' : World} {lv nv : Value} {D : Nat → Nd} {met : List Nat}
theorem Mt.mq (h : Mt base lo X w mb mm lv nv D met) : Mq base lo X w mb mm lv nv met := ⟨h.box, h.map, h.lo⟩
theorem Mq.keep (h : Mq base lo X w mb mm lv nv met) (K : ∀ (k : Nat) (o : Obj), w.heap[k]? = some o → (∀ c f, o ≠ .cells c 34 f) → w'.heap[k]? = some o) : Mq base lo X w' mb mm lv nv met := by
  obtain ⟨n, f, h1, h2, h3⟩ := h.map
  obtain ⟨es, c, hm⟩ := h2.isMap
  exact ⟨K _ _ h.box (fun c f e => by cases e), ⟨n, f, h1, h2.of_block ((K _ _ hm (fun c f e => by cases e)).trans hm.symm), h3⟩, h.lo⟩
theorem Mq.later (h : Mq base lo X w mb mm lv nv met) (hw : base ≤ w.heap.size) (B : Below w.heap.size w w') : Mq base lo X w' mb mm lv nv met := h.keep fun k o h1 _ => (B.block k (Array.getElem?_eq_some_iff.1 h1).1).trans h1
theorem Mq.no (h : Mq base lo X w mb mm lv nv met) {k : Nat} (hk : lo ≤ k) : ¬ X k := fun q => by have := h.lo.2.2.2 k q; omega
theorem Mq.c0 (h : Mq base lo X w mb mm lv nv met) : w.cell? ⟨mb, 0, none⟩ = some lv ∧ w.cell? ⟨mb, 1, none⟩ = some (.int .i64 (-1)) ∧ w.cell? ⟨mb, 2, none⟩ = some (.map (some mm)) ∧ w.cell? ⟨mb, 3, none⟩ = some nv := by
  refine ⟨?_, ?_, ?_, ?_⟩ <;> (rw [Joins.cell_of_block h.box]; rfl)
theorem Mq.look (h : Mq base lo X w mb mm lv nv met) {x : Int} (hx : isI x) : (Instr.lookup 69 (.map (some mm)) (.int .i64 x) true).run Try.prog w = .ok (.tuple #[.int .i64 (if (mfI met x).isSome then numI met x else 0), .bool (mfI met x).isSome]) w := by
  obtain ⟨n, f, h1, h2, h3⟩ := h.map
  have := h2.look_ok lawI Try.underlying69 (zero3 w) (keyI hx)
  rw [h3 x hx] at this
  rw [this]
  congr 2
  unfold mfI numI
  split
  · cases pos met x.toNat <;> simp [oI]
  · simp
set_option maxHeartbeats 4000000 in
theorem numbered45q (h : Mq base lo X w mb mm lv nv met) (hw : base ≤ w.heap.size) (hlo : lo ≤ w.heap.size) (l : List Int) (o : Option Addr) (cap : Nat) (P : PS .i64 w o cap l) (hi : ∀ x ∈ l, isI x) (hl : l.length ≤ 1000000) :
    Calls Try.prog 45 #[pt mb, .slice o l.length cap] w fun e w' => (∃ gq, e = .returned (.slice (some ⟨gq, 0, none⟩) l.length l.length) ∧ Fs lo X w' .i64 3 (some ⟨gq, 0, none⟩) l.length (l.map (numI met)) ∧ w.heap.size ≤ gq) ∧ Below w.heap.size w w' := by
  have hc := P.cap
  have HP := Hid.mk P
  have HH := Hid.mk h
  have HI := Hid.mk hi
  obtain ⟨n, hn⟩ : ∃ n, l.length = n := ⟨_, rfl⟩
  have HN := Hid.mk hn
  rw [hn] at hl hc ⊢
  obtain ⟨w1, hm, F1, B1, S1⟩ := made_ints w n hl
  obtain ⟨gq, hgq⟩ : ∃ gq, w.heap.size = gq := ⟨_, rfl⟩
  rw [hgq] at hm F1 B1
  have HG := Hid.mk hgq
  have H1 : Hid (IR w1 gq n (fun _ => 0) ∧ Below gq w w1) := ⟨F1.ir, B1⟩
  have HW := Hid.mk (And.intro hw hlo)
  clear P hn h hi F1 B1 S1 hgq hw hlo
  go_enter Try.func45, Try.ntmps45
  go_wp2
  go_loopw [15] (fun cv wr => ∃ i : Nat, cv = .int .i64 i ∧ i ≤ n ∧ Hid (∃ E, IR wr gq n E ∧ (∀ j (h : j < l.length), j < i → E j = numI met l[j]) ∧ Below gq w wr)) (fun cv _ => n - (intOf cv).toNat)
  case atStart => exact ⟨0, rfl, Nat.zero_le _, ⟨_, H1.out.1, fun j _ hj => absurd hj (Nat.not_lt_zero _), H1.out.2⟩⟩
  case round =>
    obtain ⟨i, rfl, hi, HE⟩ := hrel
    by_cases hlt : i < n
    · have hlt' : (i : Int) < n := by omega
      have kl : i < l.length := by rw [HN.out]; exact hlt
      obtain ⟨E, IE, AE, BE⟩ := HE.out
      have BW : Below w.heap.size w wr := by rw [HG.out]; exact BE
      obtain ⟨g1, f1, rfl, cx⟩ := (HP.out.later BW).get i kl
      have M1 := HH.out.later HW.out.1 BW
      obtain ⟨c0, c1, c2, c3⟩ := M1.c0
      have hl1 := M1.look (HI.out _ (List.getElem_mem kl))
      have HZ : Hid (∀ j (h : j < l.length), j = i → numI met l[j] = numI met l[i]) := ⟨fun j h e => by subst e; rfl⟩
      have HB := Hid.mk (And.intro IE (And.intro AE BE))
      have ee := IE.cell hlt
      have ez := IE.z i
      have hnone : (mfI met l[i]).isSome = false → numI met l[i] = -1 := fun q => by
        unfold mfI at q
        unfold numI
        split
        · rename_i q2
          rw [if_pos q2] at q
          rw [Option.isSome_map] at q
          have : pos met l[i].toNat = none := Option.not_isSome_iff_eq_none.1 (by rw [q]; simp)
          rw [this]; rfl
        · rfl
      generalize l[i] = y at *
      have hcase : ∃ (z : Int) (b : Bool), (Instr.lookup 69 (.map (some mm)) (.int .i64 y) true).run Try.prog wr = .ok (.tuple #[.int .i64 z, .bool b]) wr ∧ (b = true → z = numI met y) ∧ (b = false → numI met y = -1) :=
        ⟨_, _, hl1, fun q => by rw [if_pos q], hnone⟩
      clear hl1 hnone IE AE BE M1
      have fin : ∀ (z : Int), z = numI met y → Hid (IR (wr.setCell ⟨gq, i, none⟩ (.int .i64 z)) gq n (upd E i z) ∧ (∀ j (h : j < l.length), j < i + 1 → upd E i z j = numI met l[j]) ∧ Below gq w (wr.setCell ⟨gq, i, none⟩ (.int .i64 z))) := fun z hz => ⟨HB.out.1.set hlt z, fun j h hj => by
        by_cases q : j = i
        · subst q; rw [upd_at, hz]; exact (HZ.out j h rfl).symm
        · rw [upd_far _ _ q]; exact HB.out.2.1 j h (by omega), HB.out.2.2.setCell (Nat.le_refl _) _⟩
      have HFIN := Hid.mk fin
      obtain ⟨z, b, hl2, hz1, hz2⟩ := hcase
      have HZ1 := Hid.mk hz1
      have HZ2 := Hid.mk hz2
      clear hz1 hz2 fin
      cases b with
      | true =>
        have HF := HFIN.out z (HZ1.out rfl)
        go_wp2
        go_roundw
        case rel => exact ⟨i + 1, by go_num, by omega, ⟨_, HF.out⟩⟩
        case measure => simp [intOf]; omega
      | false =>
        have HF := HFIN.out (-1) (HZ2.out rfl).symm
        go_wp2
        go_roundw
        case rel => exact ⟨i + 1, by go_num, by omega, ⟨_, HF.out⟩⟩
        case measure => simp [intOf]; omega
    · obtain rfl : i = n := by omega
      go_wp2
      go_ret
      obtain ⟨E, ⟨c, q1, q2, q3⟩, AE, BE⟩ := HE.out
      have hll : (l.map (numI met)).length = i := by simp [HN.out]
      have hgl : lo ≤ gq := by have := HW.out.2; have := HG.out; omega
      refine ⟨⟨gq, rfl, ⟨by rw [hll]; exact Nat.le_refl _, by rw [hll]; omega, fun _ => ⟨gq, 0, c, rfl, hgl, HH.out.no hgl, q1, fun j hj => ?_⟩⟩, Nat.le_of_eq HG.out⟩, by rw [HG.out]; exact BE⟩
      rw [hll] at hj
      rw [Nat.zero_add, q3 j hj, AE j (by rw [HN.out]; exact hj) hj]
      simp

/-- the cells of nodes -/
def NL (lo : Nat) (X : Nat → Prop) (w : World) : List Nd → List Value → Prop
  | [], cs => cs = []
  | n :: r, cs => ∃ o1 c1 o2 c2 cs', cs = .int .i64 n.k :: .int .i64 n.i :: .slice o1 n.ns.length c1 :: .slice o2 n.ks.length c2 :: cs' ∧ Fs lo X w .u64 40 o1 c1 n.ns ∧ Fs lo X w .i64 3 o2 c2 n.ks ∧ NL lo X w r cs'
theorem NR.nl : ∀ {l : List Nat} {cs : List Value}, NR lo X w D l cs → NL lo X w (l.map D) cs
  | [], _, h => h
  | n :: r, _, ⟨o1, c1, o2, c2, cs', e, p, q, t⟩ => ⟨o1, c1, o2, c2, cs', e, p, q, NR.nl t⟩
theorem NL.map (h1 : ∀ {o c l}, Fs lo X w .u64 40 o c l → Fs lo X w' .u64 40 o c l) (h2 : ∀ {o c l}, Fs lo X w .i64 3 o c l → Fs lo X w' .i64 3 o c l) : ∀ {l : List Nd} {cs : List Value}, NL lo X w l cs → NL lo X w' l cs
  | [], _, h => h
  | n :: r, _, ⟨o1, c1, o2, c2, cs', e, p, q, t⟩ => ⟨o1, c1, o2, c2, cs', e, h1 p, h2 q, NL.map h1 h2 t⟩
theorem NL.get : ∀ {l : List Nd} {cs : List Value}, NL lo X w l cs → ∀ (i : Nat) (h : i < l.length), ∃ o1 c1 o2 c2, cs[i * 4]? = some (.int .i64 l[i].k) ∧ cs[i * 4 + 1]? = some (.int .i64 l[i].i) ∧ cs[i * 4 + 2]? = some (.slice o1 l[i].ns.length c1) ∧ cs[i * 4 + 3]? = some (.slice o2 l[i].ks.length c2) ∧ Fs lo X w .u64 40 o1 c1 l[i].ns ∧ Fs lo X w .i64 3 o2 c2 l[i].ks
  | n :: r, _, ⟨o1, c1, o2, c2, cs', e, p, q, t⟩, 0, h => ⟨o1, c1, o2, c2, by rw [e]; rfl, by rw [e]; rfl, by rw [e]; rfl, by rw [e]; rfl, p, q⟩
  | n :: r, _, ⟨o1, c1, o2, c2, cs', e, p, q, t⟩, i + 1, h => by
    obtain ⟨a1, b1, a2, b2, g⟩ := NL.get t i (by simpa using h)
    subst e
    refine ⟨a1, b1, a2, b2, ?_⟩
    rw [show (i + 1) * 4 = i * 4 + 1 + 1 + 1 + 1 by omega]
    exact g
theorem NL.set : ∀ {l : List Nd} {cs : List Value}, NL lo X w l cs → ∀ (i : Nat) (h : i < l.length) {o : Option Addr} {c : Nat} {ks : List Int}, Fs lo X w .i64 3 o c ks → NL lo X w (l.set i ⟨l[i].k, l[i].i, l[i].ns, ks⟩) (cs.set (i * 4 + 3) (.slice o ks.length c))
  | n :: r, _, ⟨o1, c1, o2, c2, cs', e, p, q, t⟩, 0, h, o, c, ks, f => by
    subst e
    exact ⟨o1, c1, o, c, cs', rfl, p, f, t⟩
  | n :: r, _, ⟨o1, c1, o2, c2, cs', e, p, q, t⟩, i + 1, h, o, c, ks, f => by
    subst e
    have := NL.set t i (by simpa using h) f
    rw [show (i + 1) * 4 + 3 = i * 4 + 3 + 1 + 1 + 1 + 1 by omega]
    exact ⟨o1, c1, o2, c2, _, rfl, p, q, this⟩
theorem NL.nds {l : List Nd} {cs : List Value} {v : Value} (h : NL lo X w l cs) (r : w.ownsRow lo 34 4 v l.length cs) (hl : l.length ≤ 1000000) : Nds w l v := by
  rcases r.2 with ⟨rfl, e⟩ | ⟨pb, cap, cur, rfl, hb, hg, h1, h2, h3, h4⟩
  · exact ⟨none, 0, by rw [e], ⟨by omega, by unfold maxLen; omega⟩, fun q => by omega⟩
  · refine ⟨some ⟨pb, 0, none⟩, cap, rfl, ⟨h1, by unfold maxLen; omega⟩, fun q => ⟨pb, 0, rfl, fun i x hi => ?_⟩⟩
    obtain ⟨hi1, rfl⟩ := List.getElem?_eq_some_iff.1 hi
    obtain ⟨o1, c1, o2, c2, g0, g1, g2, g3, f1, f2⟩ := h.get i hi1
    refine ⟨_, ⟨o1, c1, o2, c2, rfl, f1.ps, f2.ps⟩, fun j u hj => ?_⟩
    have key : ∀ k y, k < l.length * 4 → cs[k]? = some y → w.cell? ⟨pb, 0 + k, none⟩ = some y := fun k y hk e => by
      rw [← h4, List.getElem?_take_of_lt hk] at e
      rw [Joins.cell_of_block hg, Nat.zero_add]
      simpa using e
    match j, hj with
    | 0, hj => cases hj; have := key (i * 4) _ (by omega) g0; simpa using this
    | 1, hj => cases hj; have := key (i * 4 + 1) _ (by omega) g1; simpa [Nat.add_assoc] using this
    | 2, hj => cases hj; have := key (i * 4 + 2) _ (by omega) g2; simpa [Nat.add_assoc] using this
    | 3, hj => cases hj; have := key (i * 4 + 3) _ (by omega) g3; simpa [Nat.add_assoc] using this
    | j + 4, hj => simp at hj
end
end Go.Proofs.Ytncimddgkgclpaa
