/- Several texts as one. -/
import Derived.Test.YtoddemcmmijoaaaKI

/- Links: what a pair's pipe holds, in pure terms. -/
namespace Go.Proofs.Ytoddemcmmijoaaa
open Go.RowKit Go.Deep
set_option maxRecDepth 100000

def pl (st : List PD) (a b : Int) : List MsgD := ((lk st a b).map (·.l)).getD []
def Uniq (st : List PD) : Prop := st.Pairwise fun a b => ¬ (a.f = b.f ∧ a.t = b.t)
theorem LInv.uniq {base : Nat} {w : World} {P mb : Nat} {st : List PD} (H : LInv base w P mb st) : Uniq st := H.apart.imp fun h => h.2
theorem lk_set : ∀ {st : List PD} {i : Nat} {q q' : PD} (a b : Int), Uniq st → st[i]? = some q → q'.f = q.f → q'.t = q.t → lk (st.set i q') a b = if q.f = a ∧ q.t = b then some q' else lk st a b
  | [], i, q, q', a, b, hu, hi, _, _ => by simp at hi
  | p :: r, 0, q, q', a, b, hu, hi, hf, ht => by
    obtain rfl : p = q := by simpa using hi
    rw [List.set_cons_zero]
    by_cases h : p.f = a ∧ p.t = b
    · rw [if_pos h]; simp [lk, hf, ht, h]
    · rw [if_neg h]; simp [lk, hf, ht, h]
  | p :: r, i + 1, q, q', a, b, hu, hi, hf, ht => by
    rw [List.set_cons_succ]
    have hi' : r[i]? = some q := by simpa using hi
    obtain ⟨h1, h2⟩ := List.pairwise_cons.1 hu
    have ih := lk_set a b h2 hi' hf ht
    have hne := h1 q (List.mem_of_getElem? hi')
    by_cases h : p.f = a ∧ p.t = b
    · have hn : ¬ (q.f = a ∧ q.t = b) := fun c => hne ⟨h.1.trans c.1.symm, h.2.trans c.2.symm⟩
      rw [if_neg hn]
      simp [lk, h]
    · have e1 : ∀ s, lk (p :: s) a b = lk s a b := fun s => by simp [lk, h]
      rw [e1, e1, ih]
theorem snd_pl {m : MsgD} {st st' : List PD} {c : Nat} (h : Snd1 m st st' c) (hu : Uniq st) (a b : Int) : (c = 0 ∧ pl st' a b = pl st a b) ∨ (c = 1 ∧ pl st' a b = if m.frm = a ∧ m.to = b then pl st a b ++ [m] else pl st a b) := by
  rcases h with ⟨i, q, v', hi, hq, hc, hl, hm, rfl, rfl⟩ | ⟨_, rfl, rfl⟩
  · right
    refine ⟨rfl, ?_⟩
    obtain ⟨_, e1, e2⟩ := lk_some hq
    unfold pl
    rw [lk_set (q' := { q with v := v', l := q.l ++ [m] }) a b hu hi rfl rfl, e1, e2]
    by_cases h : m.frm = a ∧ m.to = b
    · rw [if_pos h, if_pos h]
      rw [h.1, h.2] at hq
      rw [hq]
      rfl
    · rw [if_neg h, if_neg h]
  · exact .inl ⟨rfl, rfl⟩
theorem snd_sizes {m : MsgD} {st st' : List PD} {c : Nat} (h : Snd1 m st st' c) (hm : SizeM m) (hz : ∀ q ∈ st, ∀ m ∈ q.l, SizeM m) : ∀ q ∈ st', ∀ m ∈ q.l, SizeM m := by
  rcases h with ⟨i, q, v', hi, hq, _, _, _, rfl, _⟩ | ⟨_, rfl, _⟩
  · intro q1 hq1 m1 hm1
    rcases List.mem_or_eq_of_mem_set hq1 with h | rfl
    · exact hz q1 h m1 hm1
    · rcases List.mem_append.1 hm1 with h | h
      · exact hz q (lk_some hq).1 m1 h
      · rw [List.mem_singleton] at h; rw [h]; exact hm
  · exact hz
theorem pl_le {base : Nat} {w : World} {P mb : Nat} {st : List PD} (H : LInv base w P mb st) (a b : Int) : (pl st a b).length ≤ 256 := by
  unfold pl
  rcases h : lk st a b with _ | q
  · simp
  · exact (H.pipe q (lk_some h).1).short
theorem pl_new (l : List (Nat × Nat × Nat)) (a b : Int) : pl (l.map fun q => (⟨q.1, q.2.1, q.2.2, .slice none 0 0, [], false⟩ : PD)) a b = [] := by
  unfold pl
  rcases h : lk _ a b with _ | q
  · rfl
  · obtain ⟨hq, _⟩ := lk_some h
    obtain ⟨x, _, rfl⟩ := List.mem_map.1 hq
    rfl
/-- What Pass leaves, in pure terms. -/
theorem pass_pl {base : Nat} {w w' : World} {P mb : Nat} {st : List PD} {a b : Int} {e : Ending} (H : LInv base w P mb st) (hz : ∀ q ∈ st, ∀ m ∈ q.l, SizeM m) (h : PassR base w P mb st a b e w') :
    (pl st a b = [] ∧ (∃ c, c ≠ 0 ∧ e = .returned (.tuple #[.agg z17, .int .i64 c])) ∧ Below w.heap.size w w') ∨
    (∃ m st2 cs', pl st a b = m :: pl st2 a b ∧ e = .returned (.tuple #[.agg cs', .int .i64 0]) ∧ OwnM w.heap.size w' cs' m ∧ LInv base w' P mb st2 ∧ Upd (Owned st) w w' ∧ (∀ k, Owned st2 k → Owned st k) ∧ (∀ q ∈ st2, ∀ m ∈ q.l, SizeM m) ∧ SizeM m) := by
  rcases h with ⟨h1, h2, h3⟩ | ⟨i, q, m, r, v', cs', hq, hi, hl, he, hO, hL, hU, hv⟩
  · refine .inl ⟨?_, h2, h3⟩
    unfold pl
    rcases h : lk st a b with _ | q
    · rfl
    · exact h1 q h
  · obtain ⟨hqm, e1, e2⟩ := lk_some hq
    refine .inr ⟨m, _, cs', ?_, he, hO, hL, hU.mono (fun k hk => ⟨q, hqm, hk⟩), ?_, ?_, hz q hqm m (by rw [hl]; exact List.mem_cons_self ..)⟩
    · unfold pl
      rw [lk_set (q' := { q with v := v', l := r }) a b H.uniq hi rfl rfl, if_pos ⟨e1, e2⟩, hq]
      exact hl
    · rintro k ⟨q1, hq1, hk⟩
      rcases List.mem_or_eq_of_mem_set hq1 with h | rfl
      · exact ⟨q1, h, hk⟩
      · refine ⟨q, hqm, ?_⟩
        rcases hk with hk | hk
        · exact .inl hk
        · exact .inr (by rw [← hv]; exact hk)
    · intro q1 hq1 m1 hm1
      rcases List.mem_or_eq_of_mem_set hq1 with h | rfl
      · exact hz q1 h m1 hm1
      · exact hz q hqm m1 (by rw [hl]; exact List.mem_cons_of_mem _ hm1)
theorem SeesMs.below {w w' : World} {v : Value} {vs : List MV} (h : SeesMs w v vs) (hb : Below w.heap.size w w') : SeesMs w' v vs := by
  obtain ⟨ao, cap, gb, ob, h1, h2, h3, h4, h5⟩ := h
  refine ⟨ao, cap, gb, ob, h1, h2, h3, h4, fun t p hp => ⟨fun j u hu => ?_, (h5 t p hp).2.below hb⟩⟩
  have := (h5 t p hp).1 j u hu
  exact (hb.cell (World.block_lt_of_cell? w _ this)).trans this
theorem sees_oneM {x : World} {b : Nat} {p : MV} (h : x.heap[b]? = some (.cells (msgCells p).toArray 38)) (hp : SeesM x (msgCells p).toArray p.1) : SeesMs x (.slice (some ⟨b, 0, none⟩) 1 1) [p] := by
  refine ⟨some ⟨b, 0, none⟩, 1, b, 0, rfl, by simp, by simp, fun _ => rfl, fun t q hq => ?_⟩
  match t, hq with
  | 0, hq =>
    obtain rfl := Option.some.inj hq
    refine ⟨fun j u hu => ?_, hp⟩
    rw [cell_heapM h]
    simpa using hu
  | t + 1, hq => simp at hq
theorem LInv.notOwned {base : Nat} {w : World} {P mb : Nat} {st : List PD} (H : LInv base w P mb st) {k T : Nat} {cs : Array Value} (hk : w.heap[k]? = some (.cells cs T)) (hT : T ≠ 38 ∧ T ≠ 52 ∧ T ≠ 46) : ¬ Owned st k := fun ⟨q, hq, h⟩ => (H.pipe q hq).typed.not hT k cs hk h
theorem LInv.ownedLt {base : Nat} {w : World} {P mb : Nat} {st : List PD} (H : LInv base w P mb st) {k : Nat} (hk : Owned st k) : base ≤ k ∧ k < w.heap.size := by
  obtain ⟨q, hq, h⟩ := hk
  exact (H.pipe q hq).lt h
/-- What is wanted: a row of one's own that shows messages of the caller's. -/
theorem row_at {w : World} {base : Nat} {u : Value} {ws : List MV} (h : w.ownsRow base 38 17 u ws.length (ws.flatMap msgCells)) {t : Nat} {p : MV} (hp : ws[t]? = some p) : ∃ g cap, u = .slice (some ⟨g, 0, none⟩) ws.length cap ∧ u.ownBlock = some g ∧ w.rangeAt g (t * 17) (msgCells p) := by
  have hlt := (List.getElem?_eq_some_iff.1 hp).1
  rcases h.2 with ⟨_, e⟩ | ⟨g, cap, cur, hv, hg, hh, hnc, hcm, hcs, ht⟩
  · omega
  · refine ⟨g, cap, hv, by rw [hv]; rfl, fun j v hj => ?_⟩
    have hj17 : j < 17 := by have := (List.getElem?_eq_some_iff.1 hj).1; rwa [msgCells_len] at this
    rw [cell_heapM hh, ← Array.getElem?_toList]
    have := flatG_at ws t p hp j hj17
    rw [← ht, List.getElem?_take_of_lt (by omega), hj] at this
    exact this
end Go.Proofs.Ytoddemcmmijoaaa

/- Links: LinksOrder's walk. -/
namespace Go.Proofs.Ytoddemcmmijoaaa
open Go.RowKit Go.Deep
set_option maxRecDepth 100000

/-- Where the walk stands: Links, and a row of what was sent on the pair. -/
structure OI (w : World) (base gp P mb : Nat) (p0 p1 : Int) (vs : List MV) (u : Value) (ws : List MV) (st : List PD) (k : Nat) (wr : World) : Prop where
  lnk : LInv base wr P mb st
  low : Below w.heap.size w wr
  siz : base ≤ wr.heap.size
  row : wr.ownsRow base 38 17 u ws.length (ws.flatMap msgCells)
  off : ∀ g, u.ownBlock = some g → ¬ Owned st g
  sub : ∀ p ∈ ws, p ∈ vs
  say : pl st p0 p1 = (ws.map (·.1)).drop k
  z : ∀ q ∈ st, ∀ m ∈ q.l, SizeM m
  box : wr.heap[gp]? = some (.cells #[.int .i64 p0, .int .i64 p1] 24)
theorem OI.below {w : World} {base gp P mb : Nat} {p0 p1 : Int} {vs : List MV} {u : Value} {ws : List MV} {st : List PD} {k : Nat} {x y : World} (h : OI w base gp P mb p0 p1 vs u ws st k x) (hb : Below x.heap.size x y) : OI w base gp P mb p0 p1 vs u ws st k y :=
  ⟨h.lnk.below hb, h.low.trans (hb.mono h.low.size), Nat.le_trans h.siz hb.size, own_below h.row hb, h.off, h.sub, h.say, h.z, (hb.block _ (Array.getElem?_eq_some_iff.1 h.box).1).trans h.box⟩
/-- Links alone have turned. -/
theorem OI.turn {w : World} {base gp P mb : Nat} {p0 p1 : Int} {vs : List MV} {u : Value} {ws : List MV} {st st2 : List PD} {k k2 : Nat} {x y : World} (h : OI w base gp P mb p0 p1 vs u ws st k x) (hw : w.heap.size ≤ base) (hL : LInv base y P mb st2) (hU : Upd (Owned st) x y) (hO : ∀ j, Owned st2 j → Owned st j ∨ x.heap.size ≤ j)
    (hs : pl st2 p0 p1 = (ws.map (·.1)).drop k2) (hz : ∀ q ∈ st2, ∀ m ∈ q.l, SizeM m) : OI w base gp P mb p0 p1 vs u ws st2 k2 y := by
  have hb : Below base x y := hU.below h.siz (fun k hk => (h.lnk.ownedLt hk).1)
  refine ⟨hL, h.low.trans (hb.mono hw), Nat.le_trans h.siz hU.size, own_apartU h.row hU h.off, fun g hg hc => ?_, h.sub, hs, hz, (hU.block _ (Array.getElem?_eq_some_iff.1 h.box).1 (h.lnk.notOwned h.box (by decide))).trans h.box⟩
  rcases hO g hc with hc | hc
  · exact h.off g hg hc
  · have := (h.row.lt g hg).2
    omega
theorem OI.cells {w : World} {base gp P mb : Nat} {p0 p1 : Int} {vs : List MV} {u : Value} {ws : List MV} {st : List PD} {k : Nat} {x : World} (h : OI w base gp P mb p0 p1 vs u ws st k x) : x.cell? ⟨gp, 0, none⟩ = some (.int .i64 p0) ∧ x.cell? ⟨gp, 1, none⟩ = some (.int .i64 p1) := by
  constructor <;> (rw [cell_heapM h.box]; rfl)
theorem OI.len {w : World} {base gp P mb : Nat} {p0 p1 : Int} {vs : List MV} {u : Value} {ws : List MV} {st : List PD} {x : World} (h : OI w base gp P mb p0 p1 vs u ws st 0 x) : ws.length ≤ 256 := by
  have := pl_le h.lnk p0 p1
  rw [h.say] at this
  simpa using this

theorem wpList_append_run {P : Program} {ops : Array Oper} {rest : List Oper} {o : Oper} {a : Act} {w w' : World} {Q : Exit → Act → World → Prop} {s x : Operand} {t : TypeId} {v sv v' : Value} (hgd : o.guard = none)
    (ho : o.op = .call { callee := .builtin .append, args := #[s, x], argTypes := #[t, t] }) (hs : a.eval s = v) (hx : a.eval x = sv) (hr : (Builtin.append_ #[t, t] o.type #[v, sv]).run P w = .ok v' w') (h : wpList P ops Q rest (a.put o.dst v') w') : wpList P ops Q (o :: rest) a w :=
  wpList_plain hgd fun _ hK => append_upon ho hs hx hr (hK _ _ h)
/-- A row of messages grows that is not Links'. -/
theorem LInv.grow {S : Nat → Prop} {base : Nat} {w w' : World} {P mb : Nat} {st : List PD} (h : LInv base w P mb st) (hu : Upd S w w') (hS : ∀ k, S k → ∃ cur, w.heap[k]? = some (.cells cur 38)) (hn : ∀ k, S k → ¬ Owned st k) : LInv base w' P mb st := by
  have hV : LnkS w S := fun k hk => by obtain ⟨cur, e⟩ := hS k hk; exact .inr ⟨_, _, _, e, .inl rfl⟩
  have hP : ¬ S P := fun c => by obtain ⟨cur, e⟩ := hS _ c; have := h.box; rw [e] at this; cases this
  have hmb : ¬ S mb := fun c => by obtain ⟨cur, e⟩ := hS _ c; obtain ⟨_, es, c, hm, _⟩ := h.map; rw [e] at hm; cases hm
  refine ⟨h.low, (hu.block _ (h.lt (.inl rfl)) hP).trans h.box, ?_, fun q hq => (h.pipe q hq).keep hu (fun k hk c => hn k c ⟨q, hq, hk⟩) hV, h.apart, h.small⟩
  obtain ⟨h1, es, c, h2, h3⟩ := h.map
  exact ⟨h1, es, c, (hu.block _ (h.lt (.inr (.inl rfl))) hmb).trans h2, h3⟩
/-- A message is sent on the pair and kept in mind. -/
theorem OI.grow {w : World} {base gp P mb : Nat} {p0 p1 : Int} {vs : List MV} {u : Value} {ws : List MV} {st st2 : List PD} {x y : World} (h : OI w base gp P mb p0 p1 vs u ws st 0 x) (hw : w.heap.size ≤ base) (hL : LInv base y P mb st2) (hU : Upd (Owned st) x y) (hO : ∀ j, Owned st2 j → Owned st j ∨ x.heap.size ≤ j)
    {p : MV} (hs : pl st2 p0 p1 = pl st p0 p1 ++ [p.1]) (hz : ∀ q ∈ st2, ∀ m ∈ q.l, SizeM m) (hp : p ∈ vs) (h1 : ∀ t ∈ msgCells p, t.oneCell' = true) :
    ∃ u' x', (Builtin.append_ #[22, 22] 22 #[u, .slice (some ⟨y.heap.size, 0, none⟩) 1 1]).run Try.prog (y.alloc (.cells (msgCells p).toArray 38)) = .ok u' x' ∧ OI w base gp P mb p0 p1 vs u' (ws ++ [p]) st2 0 x' := by
  have hsay : pl st2 p0 p1 = ((ws ++ [p]).map (·.1)).drop 0 := by rw [hs, h.say]; simp
  have hlen : (ws ++ [p]).length ≤ 256 := by
    have := pl_le hL p0 p1
    rw [hsay] at this
    simpa using this
  have hb : Below base x y := hU.below h.siz (fun k hk => (h.lnk.ownedLt hk).1)
  have hal : Below y.heap.size y (y.alloc (.cells (msgCells p).toArray 38)) := below_box _ 38
  have hbx := heap_alloc_new y (.cells (msgCells p).toArray 38)
  have hrow : (y.alloc (.cells (msgCells p).toArray 38)).ownsRow base 38 17 u ws.length (ws.flatMap msgCells) := own_below (own_apartU h.row hU h.off) hal
  have hsz : base ≤ y.heap.size := Nat.le_trans h.siz hU.size
  obtain ⟨u', x', hr, ho, hg, hf⟩ := run_append_msgs hrow ⟨y.heap.size, 0, none⟩ 1 1 (msgCells p) rfl (fun j t ht => by
    rw [Addr.add_mid, Nat.zero_add, cell_heapM hbx]
    simpa using ht) h1 (by simp at hlen; omega) (Nat.le_trans hsz hal.size) 22
  have hu : Upd (fun k => u.ownBlock = some k) (y.alloc (.cells (msgCells p).toArray 38)) x' := .grown hg (fun _ h => h)
  have h38 : ∀ k, u.ownBlock = some k → ∃ cur, (y.alloc (.cells (msgCells p).toArray 38)).heap[k]? = some (.cells cur 38) := fun k hk => by
    rcases hrow.2 with ⟨e, _⟩ | ⟨g, cap, cur, e, _, hh, _⟩
    · rw [e] at hk; simp [Value.ownBlock] at hk
    · rw [e] at hk
      simp only [Value.ownBlock, Option.some.injEq] at hk
      subst hk
      exact ⟨cur, hh⟩
  have hoff : ∀ g, u.ownBlock = some g → ¬ Owned st2 g := fun g hg hc => by
    rcases hO g hc with hc | hc
    · exact h.off g hg hc
    · have := (h.row.lt g hg).2
      omega
  have hbox : (y.alloc (.cells (msgCells p).toArray 38)).heap[gp]? = some (.cells #[.int .i64 p0, .int .i64 p1] 24) := by
    have hy : y.heap[gp]? = some (.cells #[.int .i64 p0, .int .i64 p1] 24) := (hU.block _ (Array.getElem?_eq_some_iff.1 h.box).1 (h.lnk.notOwned h.box (by decide))).trans h.box
    exact (hal.block _ (Array.getElem?_eq_some_iff.1 hy).1).trans hy
  have hlow : Below w.heap.size w (y.alloc (.cells (msgCells p).toArray 38)) := (h.low.trans (hb.mono hw)).trans (hal.mono (Nat.le_trans hw hsz))
  refine ⟨u', x', hr, (hL.below hal).grow hu h38 hoff, hlow.trans (hu.below hlow.size (fun k hk => Nat.le_trans hw (hrow.lt k hk).1)), Nat.le_trans hsz (Nat.le_trans hal.size hu.size), ?_, fun g hg' hc => ?_, fun q hq => ?_, hsay, hz, ?_⟩
  · rw [List.flatMap_append, List.length_append]
    simpa using ho
  · rcases hf g hg' with h2 | h2
    · exact hoff g h2 hc
    · have := (hL.ownedLt hc).2
      have := hal.size
      omega
  · rcases List.mem_append.1 hq with h2 | h2
    · exact h.sub q h2
    · rw [List.mem_singleton] at h2; rw [h2]; exact hp
  · refine (hu.block _ (Array.getElem?_eq_some_iff.1 hbox).1 (fun c => ?_)).trans hbox
    obtain ⟨cur, e⟩ := h38 _ c
    rw [hbox] at e
    cases e

set_option maxHeartbeats 16000000 in
theorem order_walk {w : World} {v : Value} {vs : List MV} {p0 p1 : Int} (hS : SeesMs w v vs) (hz : ∀ p ∈ vs, SizeM p.1)
    (hf : ∀ p ∈ vs, (-9223372036854775808 ≤ p.1.frm ∧ p.1.frm ≤ 9223372036854775807) ∧ -9223372036854775808 ≤ p.1.to ∧ p.1.to ≤ 9223372036854775807)
    (h0 : -9223372036854775808 ≤ p0 ∧ p0 ≤ 9223372036854775807) (h1 : -9223372036854775808 ≤ p1 ∧ p1 ≤ 9223372036854775807) :
    Calls Try.prog 3 #[v, keyV p0 p1] w fun e w' => e = .returned (.bool true) ∧ Below w.heap.size w w' := by
  have HS : Hid (∀ x, Below w.heap.size w x → SeesMs x v vs) := fun x hx => hS.below hx
  have HZ := hide hz
  have HF := hide hf
  have H01 := hide (And.intro h0 h1)
  obtain ⟨ao, cap, gb, ob, rfl, hlc, hlm, hao, -⟩ := hS
  obtain ⟨n, hn⟩ : ∃ n, vs.length = n := ⟨_, rfl⟩
  rw [hn] at HS hlc hlm hao ⊢
  have HN := hide hn
  have hal : Below w.heap.size w (w.alloc (.cells #[.int .i64 p0, .int .i64 p1] 24)) := below_box _ 24
  have hx0 : (w.alloc (.cells #[.int .i64 p0, .int .i64 p1] 24)).heap[w.heap.size]? = some (.cells #[.int .i64 p0, .int .i64 p1] 24) := heap_alloc_new w _
  obtain ⟨y0, hy0⟩ : ∃ y, w.alloc (.cells #[.int .i64 p0, .int .i64 p1] 24) = y := ⟨_, rfl⟩
  rw [hy0] at hal hx0
  have HA := hide (And.intro hal hx0)
  have HNEW := hide (new_any 5 (by decide) (by decide) y0)
  clear hz hf h0 h1 hn hao hal hx0
  unfold keyV
  go_enter Try.func3, Try.ntmps3
  go_wp2_with (rw [hy0])
  refine (unhide HNEW).mono ?_
  rintro e w1 ⟨P, mb, l, rfl, hL1, hl, hb1⟩
  have HLV := hide (live_any w1)
  have HI0 : Hid (∀ x, Below w1.heap.size w1 x → OI w y0.heap.size w.heap.size P mb p0 p1 vs (.slice none 0 0) [] (l.map fun q => (⟨q.1, q.2.1, q.2.2, .slice none 0 0, [], false⟩ : PD)) 0 x) := fun x hx => by
    obtain ⟨hal, hx0⟩ := unhide HA
    refine OI.below ⟨hL1, hal.trans (hb1.mono hal.size), hb1.size, World.ownsRow_nil _ _ _ _, fun g hg => by simp [Value.ownBlock] at hg, fun p hp => (by cases hp), by rw [pl_new]; rfl, fun q hq m hm => ?_, (hb1.block _ (Array.getElem?_eq_some_iff.1 hx0).1).trans hx0⟩ hx
    obtain ⟨t, _, rfl⟩ := List.mem_map.1 hq
    cases hm
  have hwb : w.heap.size ≤ y0.heap.size := (unhide HA).1.size
  clear hL1 hl hb1 HNEW HA
  go_wp2_with fail
  refine (unhide HLV).mono ?_
  rintro e w2 ⟨rfl, hb2⟩
  have HI2 := hide (unhide HI0 w2 hb2)
  clear hb2 HI0 HLV
  go_wp2
  go_loopw [7, 26] (fun u i wr => ∃ (k : Nat) (st : List PD) (ws : List MV), k ≤ n ∧ i = .int .i64 k ∧ OI w y0.heap.size w.heap.size P mb p0 p1 vs u ws st 0 wr) (fun _ i _ => n - (intOf i).toNat)
  case atStart => exact ⟨0, _, [], Nat.zero_le _, rfl, unhide HI2⟩
  case round =>
    obtain ⟨k, st, ws, hk, rfl, hI⟩ := hrel
    by_cases hlt : k < n
    · have hdb : decide ((k : Int) < n) = true := by simp; omega
      have hlv : k < vs.length := by rw [unhide HN]; exact hlt
      obtain ⟨p, hp⟩ : ∃ p, vs[k]? = some p := ⟨_, List.getElem?_eq_getElem hlv⟩
      have hpm : p ∈ vs := List.mem_of_getElem? hp
      obtain ⟨ao', cap', gb', ob', hv', _, _, hao', hrow⟩ := unhide HS wr hI.low
      obtain ⟨rfl, -, rfl⟩ : ao = ao' ∧ n = vs.length ∧ cap = cap' := by simpa using hv'
      obtain rfl := hao' (by rw [unhide HN]; omega)
      obtain ⟨hra, hse⟩ := hrow k p hp
      have HSE : Hid (∀ x, Below w.heap.size w x → SeesM x (msgCells p).toArray p.1) := fun x hx => by
        obtain ⟨_, _, _, _, _, _, _, _, hr⟩ := unhide HS x hx
        exact (hr k p hp).2
      have hk0 : (0 : Int) ≤ (k : Int) := by omega
      have hkn : (k : Int) < (n : Int) := by omega
      have hlen : (msgCells p).toArray.size = 17 := by simp [msgCells]
      have hlenL : (msgCells p).length = 17 := rfl
      have hone : (msgCells p).toArray.all (·.oneCell') = true := seesM_one hse
      have hal : Below wr.heap.size wr (wr.alloc (.cells z17 38)) := below_box z17 38
      have hx1 : (wr.alloc (.cells z17 38)).heap[wr.heap.size]? = some (.cells z17 38) := heap_alloc_new wr _
      obtain ⟨y1, hy1⟩ : ∃ y, wr.alloc (.cells z17 38) = y := ⟨_, rfl⟩
      rw [hy1] at hal hx1
      have hb2 : Below wr.heap.size wr (y1.setRow wr.heap.size (msgCells p).toArray) := below_setRow hal (Nat.le_refl _)
      have hx2 : (y1.setRow wr.heap.size (msgCells p).toArray).heap[wr.heap.size]? = some (.cells (msgCells p).toArray 38) := setRow_heap _ _ _ _ _ _ hx1
      obtain ⟨y2, hy2⟩ : ∃ y, y1.setRow wr.heap.size (msgCells p).toArray = y := ⟨_, rfl⟩
      rw [hy2] at hb2 hx2
      have s2 : wr.heap.size < y2.heap.size := (Array.getElem?_eq_some_iff.1 hx2).1
      have hal3 : Below y2.heap.size y2 (y2.alloc (.cells (msgCells p).toArray 38)) := below_box _ 38
      have hx3 : (y2.alloc (.cells (msgCells p).toArray 38)).heap[y2.heap.size]? = some (.cells (msgCells p).toArray 38) := heap_alloc_new y2 _
      obtain ⟨y3, hy3⟩ : ∃ y, y2.alloc (.cells (msgCells p).toArray 38) = y := ⟨_, rfl⟩
      rw [hy3] at hal3 hx3
      have hb3 : Below wr.heap.size wr y3 := hb2.trans (hal3.mono hb2.size)
      have hx3b : y3.heap[wr.heap.size]? = some (.cells (msgCells p).toArray 38) := (hal3.block _ s2).trans hx2
      have s3 : y2.heap.size < y3.heap.size := (Array.getElem?_eq_some_iff.1 hx3).1
      have hI3 := hI.below hb3
      have hnew : ∀ j, wr.heap.size ≤ j → ¬ Owned st j := fun j hj hc => by have := (hI.lnk.ownedLt hc).2; omega
      have HSD := hide (send_any hI3.lnk hI3.siz (v := .slice (some ⟨y2.heap.size, 0, none⟩) 1 1) (vs := [p]) (fun x hx => sees_oneM ((hx.block _ s3 (hnew _ (by omega))).trans hx3) (unhide HSE x (hI3.low.trans ((hx.below hI3.siz (fun k hk => (hI3.lnk.ownedLt hk).1)).mono hwb)))) (fun q hq => by rw [List.mem_singleton] at hq; rw [hq]; exact unhide HZ p hpm) (fun q hq => by rw [List.mem_singleton] at hq; rw [hq]; exact unhide HF p hpm))
      have hone' : ∀ t ∈ msgCells p, t.oneCell' = true := by simpa using hone
      -- what Send leaves behind
      have HE : Hid (∀ (st2 : List PD) (c : Nat) (w4 : World), SndL ([p].map (·.1)) st st2 c → LInv y0.heap.size w4 P mb st2 → Upd (Owned st) y3 w4 → (∀ j, Owned st2 j → Owned st j ∨ y3.heap.size ≤ j) →
          w4.heap[wr.heap.size]? = some (.cells (msgCells p).toArray 38) ∧ w4.heap[w.heap.size]? = some (.cells #[.int .i64 p0, .int .i64 p1] 24) ∧
          ((c = 0 ∧ OI w y0.heap.size w.heap.size P mb p0 p1 vs u7 ws st2 0 w4) ∨ (c = 1 ∧ ¬ (p.1.frm = p0 ∧ p.1.to = p1) ∧ OI w y0.heap.size w.heap.size P mb p0 p1 vs u7 ws st2 0 w4) ∨
            (c = 1 ∧ p.1.frm = p0 ∧ p.1.to = p1 ∧ ∃ u' x', (Builtin.append_ #[22, 22] 22 #[u7, .slice (some ⟨w4.heap.size, 0, none⟩) 1 1]).run Try.prog (w4.alloc (.cells (msgCells p).toArray 38)) = .ok u' x' ∧ OI w y0.heap.size w.heap.size P mb p0 p1 vs u' (ws ++ [p]) st2 0 x'))) := fun st2 c w4 hsnd hL hU hO => by
        refine ⟨(hU.block _ (by omega) (hnew _ (Nat.le_refl _))).trans hx3b, (hU.block _ (Array.getElem?_eq_some_iff.1 hI3.box).1 (hI3.lnk.notOwned hI3.box (by decide))).trans hI3.box, ?_⟩
        have h1 : Snd1 p.1 st st2 c := SndL.one hsnd
        have hz2 := snd_sizes h1 (unhide HZ p hpm) hI.z
        rcases snd_pl h1 hI.lnk.uniq p0 p1 with ⟨rfl, hpl⟩ | ⟨rfl, hpl⟩
        · exact .inl ⟨rfl, hI3.turn hwb hL hU hO (by rw [hpl]; exact hI.say) hz2⟩
        · by_cases hm : p.1.frm = p0 ∧ p.1.to = p1
          · rw [if_pos hm] at hpl
            exact .inr (.inr ⟨rfl, hm.1, hm.2, hI3.grow hwb hL hU hO hpl hz2 hpm hone'⟩)
          · rw [if_neg hm] at hpl
            exact .inr (.inl ⟨rfl, hm, hI3.turn hwb hL hU hO (by rw [hpl]; exact hI.say) hz2⟩)
      obtain ⟨cs, hcs⟩ : ∃ c, (msgCells p).toArray = c := ⟨_, rfl⟩
      obtain ⟨cl, hclL⟩ : ∃ c, msgCells p = c := ⟨_, rfl⟩
      have hcc : cl.toArray = cs := by rw [← hcs, ← hclL]
      have c1 : cs[1]? = some (.int .i64 p.1.frm) := by rw [← hcs]; rfl
      have c2 : cs[2]? = some (.int .i64 p.1.to) := by rw [← hcs]; rfl
      have HRA := hide hra
      have HX1 := hide hx1
      have HX2 := hide hx2
      rw [hcs] at HX2 HE hlen hone hy2 hy3
      rw [hclL] at HRA hlenL
      have hfold : Array.foldl (fun (cs : Array Value) (x : Value × Nat) => cs.setIfInBounds x.snd x.fst) z17 cs.zipIdx 0 17 = cs := fold17 cs hlen
      obtain ⟨fr, hfr'⟩ : ∃ f, p.1.frm = f := ⟨_, rfl⟩
      obtain ⟨to, hto'⟩ : ∃ f, p.1.to = f := ⟨_, rfl⟩
      rw [hfr', hto'] at HE
      rw [hfr'] at c1
      rw [hto'] at c2
      have HC12 := hide (And.intro c1 c2)
      clear hlv hpm hv' hao' hrow hra hse hal hx1 hb2 hx2 s2 hal3 hx3 hb3 hx3b s3 hI hI3 hnew hone' hclL hfr' hto' c1 c2 hp HSE
      go_wp2_with (first | rw [hy1] | (rw [hcc]) | rw [hy2] | rw [hy3] | refine wpList_load_mid rfl 38 _ rfl gb' (ob' + k * 17) rfl cl _ ((unhide HRA)) Try.underlying38 rfl (by rw [hlenL]; exact info38s) ?_ | refine wpList_store_row rfl 38 _ _ rfl wr.heap.size _ _ rfl rfl 38 (unhide HX1) (by rw [hlen]; exact info38s) (by rw [hlen]; rfl) hone ?_ | refine wpList_load_row rfl 38 _ rfl wr.heap.size rfl 38 _ (0, 0) _ (unhide HX2) Try.underlying38 rfl (by rw [hlen]; exact info38s) ?_)
      refine (unhide HSD).mono ?_
      rintro e w4 ⟨st2, c, rfl, hsnd, hL4, hU4, hO4⟩
      obtain ⟨hx4, hbox4, hcase⟩ := unhide HE st2 c w4 hsnd hL4 hU4 hO4
      have c1 : w4.cell? ⟨wr.heap.size, 1, none⟩ = some (.int .i64 fr) := by rw [cell_heapM hx4]; exact (unhide HC12).1
      have c2 : w4.cell? ⟨wr.heap.size, 2, none⟩ = some (.int .i64 to) := by rw [cell_heapM hx4]; exact (unhide HC12).2
      have g0 : w4.cell? ⟨w.heap.size, 0, none⟩ = some (.int .i64 p0) := by rw [cell_heapM hbox4]; rfl
      have g1 : w4.cell? ⟨w.heap.size, 1, none⟩ = some (.int .i64 p1) := by rw [cell_heapM hbox4]; rfl
      have HX4 := hide hx4
      clear hsnd hL4 hU4 hO4 hx4 hbox4 HE HSD
      rcases hcase with ⟨rfl, hI⟩ | ⟨rfl, hm, hI⟩ | ⟨rfl, hm1, hm2, u', x', hr, hI⟩
      · have HI := hide hI
        clear hI c1 c2 g0 g1
        go_wp2
        go_roundw
        case rel => first | exact ⟨k + 1, st2, ws, by omega, by go_num, unhide HI⟩ | ((repeat apply Exists.intro); exact ⟨⟨k + 1, st2, ws, by omega, rfl, unhide HI⟩, rfl⟩)
        case measure => simp [intOf]; omega
      · have HI := hide hI
        clear hI
        by_cases h1 : fr = p0
        · have d1 : (fr == p0) = true := beq_iff_eq.2 h1
          have d2 : (to == p1) = false := beq_eq_false_iff_ne.2 (fun h2 => hm ⟨h1, h2⟩)
          clear hm h1
          go_wp2
          go_roundw
          case rel => first | exact ⟨k + 1, st2, ws, by omega, by go_num, unhide HI⟩ | ((repeat apply Exists.intro); exact ⟨⟨k + 1, st2, ws, by omega, rfl, unhide HI⟩, rfl⟩)
          case measure => simp [intOf]; omega
        · have d1 : (fr == p0) = false := beq_eq_false_iff_ne.2 h1
          clear hm h1
          go_wp2
          go_roundw
          case rel => first | exact ⟨k + 1, st2, ws, by omega, by go_num, unhide HI⟩ | ((repeat apply Exists.intro); exact ⟨⟨k + 1, st2, ws, by omega, rfl, unhide HI⟩, rfl⟩)
          case measure => simp [intOf]; omega
      · have HI := hide hI
        have d1 : (fr == p0) = true := beq_iff_eq.2 hm1
        have d2 : (to == p1) = true := beq_iff_eq.2 hm2
        obtain ⟨y5, hy5⟩ : ∃ y, w4.alloc (.cells cs 38) = y := ⟨_, rfl⟩
        rw [hy5] at hr
        have HR := hide hr
        clear hI hm1 hm2 hr
        go_wp2_with (first | rw [hy5] | refine wpList_load_row rfl 38 _ rfl wr.heap.size rfl 38 _ (0, 0) _ (unhide HX4) Try.underlying38 rfl (by rw [hlen]; exact info38s) ?_ | refine wpList_append_run rfl rfl rfl rfl (unhide HR) ?_)
        go_roundw
        case rel => first | exact ⟨k + 1, st2, ws ++ [p], by omega, by go_num, unhide HI⟩ | ((repeat apply Exists.intro); exact ⟨⟨k + 1, st2, ws ++ [p], by omega, rfl, unhide HI⟩, rfl⟩)
        case measure => simp [intOf]; omega
    · obtain rfl : k = n := by omega
      have hwl := hI.len
      obtain ⟨au, cu, rfl⟩ := own_shapeN hI.row
      obtain ⟨n2, hn2⟩ : ∃ x, ws.length = x := ⟨_, rfl⟩
      rw [hn2] at hI hwl ⊢
      have HI := hide hI
      have HN2 := hide hn2
      clear hI hn2 hlt
      go_wp2
      go_loopw [56] (fun i wr => ∃ (j : Nat) (st : List PD), j ≤ n2 ∧ i = .int .i64 j ∧ OI w y0.heap.size w.heap.size P mb p0 p1 vs (.slice au n2 cu) ws st j wr) (fun i _ => n2 - (intOf i).toNat)
      case atStart => exact ⟨0, st, Nat.zero_le _, rfl, unhide HI⟩
      case round =>
        clear HI
        obtain ⟨j, st3, hj, rfl, hI⟩ := hrel
        by_cases hjn : j < n2
        · have hdb : decide ((j : Int) < n2) = true := by simp; omega
          have hlv : j < ws.length := by rw [unhide HN2]; exact hjn
          obtain ⟨p, hp⟩ : ∃ p, ws[j]? = some p := ⟨_, List.getElem?_eq_getElem hlv⟩
          have hpm : p ∈ vs := hI.sub p (List.mem_of_getElem? hp)
          have hsay : pl st3 p0 p1 = p.1 :: (ws.map (·.1)).drop (j + 1) := by
            rw [hI.say, List.drop_eq_getElem_cons (by simpa using hlv)]
            have : ws[j] = p := (List.getElem?_eq_some_iff.1 hp).2
            simp [this]
          obtain ⟨gu, cu', hu', hgu, hra⟩ := row_at (show wr.ownsRow y0.heap.size 38 17 (.slice au n2 cu) ws.length (ws.flatMap msgCells) from hI.row) hp
          obtain ⟨rfl, -, rfl⟩ : au = some ⟨gu, 0, none⟩ ∧ n2 = ws.length ∧ cu = cu' := by simpa using hu'
          obtain ⟨t, ht⟩ := List.getElem?_of_mem hpm
          have HSE : Hid (∀ x, Below w.heap.size w x → SeesM x (msgCells p).toArray p.1) := fun x hx => by
            obtain ⟨_, _, _, _, _, _, _, _, hr⟩ := unhide HS x hx
            exact (hr t p ht).2
          have hk0 : (0 : Int) ≤ (j : Int) := by omega
          have hkn : (j : Int) < (n2 : Int) := by omega
          have hlen : (msgCells p).toArray.size = 17 := by simp [msgCells]
          have hlenL : (msgCells p).length = 17 := rfl
          have hone : (msgCells p).toArray.all (·.oneCell') = true := seesM_one (unhide HSE wr hI.low)
          have hal : Below wr.heap.size wr (wr.alloc (.cells z17 38)) := below_box z17 38
          have hx1 : (wr.alloc (.cells z17 38)).heap[wr.heap.size]? = some (.cells z17 38) := heap_alloc_new wr _
          obtain ⟨y1, hy1⟩ : ∃ y, wr.alloc (.cells z17 38) = y := ⟨_, rfl⟩
          rw [hy1] at hal hx1
          have hb2 : Below wr.heap.size wr (y1.setRow wr.heap.size (msgCells p).toArray) := below_setRow hal (Nat.le_refl _)
          have hx2 : (y1.setRow wr.heap.size (msgCells p).toArray).heap[wr.heap.size]? = some (.cells (msgCells p).toArray 38) := setRow_heap _ _ _ _ _ _ hx1
          obtain ⟨y2, hy2⟩ : ∃ y, y1.setRow wr.heap.size (msgCells p).toArray = y := ⟨_, rfl⟩
          rw [hy2] at hb2 hx2
          have s2 : wr.heap.size < y2.heap.size := (Array.getElem?_eq_some_iff.1 hx2).1
          have hI2 := hI.below hb2
          have hnew : ¬ Owned st3 wr.heap.size := fun hc => by have := (hI.lnk.ownedLt hc).2; omega
          have HPS := hide (pass_any hI2.lnk (unhide H01).1 (unhide H01).2 hI2.z)
          obtain ⟨g0, g1⟩ := hI2.cells
          -- what Pass leaves behind
          have HE : Hid (∀ e w4, PassR y0.heap.size y2 P mb st3 p0 p1 e w4 → ∃ st4 cs', e = .returned (.tuple #[.agg cs', .int .i64 0]) ∧ OwnM y2.heap.size w4 cs' p.1 ∧ w4.heap[wr.heap.size]? = some (.cells (msgCells p).toArray 38) ∧ OI w y0.heap.size w.heap.size P mb p0 p1 vs (.slice (some ⟨gu, 0, none⟩) n2 cu) ws st4 (j + 1) w4) := fun e w4 h => by
            rcases pass_pl hI2.lnk hI2.z h with ⟨hno, _⟩ | ⟨m, st4, cs', hpl, he, hO, hL, hU, hOw, hz4, _⟩
            · rw [hsay] at hno; cases hno
            · rw [hsay] at hpl
              obtain ⟨rfl, hdr⟩ := List.cons.inj hpl
              exact ⟨st4, cs', he, hO, (hU.block _ s2 hnew).trans hx2, hI2.turn hwb hL hU (fun j hj => .inl (hOw j hj)) hdr.symm hz4⟩
          obtain ⟨cs, hcs⟩ : ∃ c, (msgCells p).toArray = c := ⟨_, rfl⟩
          obtain ⟨cl, hclL⟩ : ∃ c, msgCells p = c := ⟨_, rfl⟩
          have hcc : cl.toArray = cs := by rw [← hcs, ← hclL]
          have HRA := hide hra
          have HX1 := hide hx1
          have HZP := hide (unhide HZ p hpm)
          rw [hcs] at HE hlen hone hy2 HSE
          rw [hclL] at HRA hlenL
          unfold keyV at HPS
          clear hlv hpm hu' hgu hra hal hx1 hb2 hx2 s2 hI hI2 hnew hclL hp hsay ht
          go_wp2_with (first | rw [hy1] | (rw [hcc]) | rw [hy2] | refine wpList_load_mid rfl 38 _ rfl gu (j * 17) (by go_num) cl _ ((unhide HRA)) Try.underlying38 rfl (by rw [hlenL]; exact info38s) ?_ | refine wpList_store_row rfl 38 _ _ rfl wr.heap.size _ _ rfl rfl 38 (unhide HX1) (by rw [hlen]; exact info38s) (by rw [hlen]; rfl) hone ?_)
          refine (unhide HPS).mono ?_
          intro e w4 hpass
          obtain ⟨st4, cs', rfl, hO, hx4, hI4⟩ := unhide HE e w4 hpass
          obtain ⟨hlen', hone'⟩ := hO.size
          have hal5 : Below w4.heap.size w4 (w4.alloc (.cells z17 38)) := below_box z17 38
          have hx5 : (w4.alloc (.cells z17 38)).heap[w4.heap.size]? = some (.cells z17 38) := heap_alloc_new w4 _
          obtain ⟨y5, hy5⟩ : ∃ y, w4.alloc (.cells z17 38) = y := ⟨_, rfl⟩
          rw [hy5] at hal5 hx5
          have hb6 : Below w4.heap.size w4 (y5.setRow w4.heap.size cs') := below_setRow hal5 (Nat.le_refl _)
          have hx6 : (y5.setRow w4.heap.size cs').heap[w4.heap.size]? = some (.cells cs' 38) := setRow_heap _ _ _ _ _ _ hx5
          obtain ⟨y6, hy6⟩ : ∃ y, y5.setRow w4.heap.size cs' = y := ⟨_, rfl⟩
          rw [hy6] at hb6 hx6
          have hI6 := hI4.below hb6
          have HSM := hide (refSameMsg_any cs' cs p.1 p.1 y6 ((hO.below hb6).sees (unhide HZP)) (unhide HSE y6 hI6.low) (unhide HZP).ok (unhide HZP).ok)
          rw [decide_eq_true rfl] at HSM
          have HX4 : Hid (y6.heap[wr.heap.size]? = some (.cells cs 38)) := (hb6.block _ (Array.getElem?_eq_some_iff.1 hx4).1).trans hx4
          have HX5 := hide hx5
          have HX6 := hide hx6
          have HI6 := hide hI6
          clear hpass hO hx4 hI4 hal5 hx5 hb6 hx6 hI6 HE HPS g0 g1
          go_wp2_with (first | rw [hy5] | rw [hy6] | refine wpList_store_row rfl 38 _ _ rfl w4.heap.size _ _ rfl rfl 38 (unhide HX5) (by rw [hlen']; exact info38s) (by rw [hlen']; rfl) hone' ?_ | refine wpList_load_wanted (by rfl) 38 _ rfl w4.heap.size rfl 38 _ (0, 0) _ (unhide HX6) Try.underlying38 rfl (by rw [hlen']; exact info38s) ?_ | refine wpList_load_wanted (by rfl) 38 _ rfl wr.heap.size rfl 38 _ (0, 0) _ (unhide HX4) Try.underlying38 rfl (by rw [hlen]; exact info38s) ?_)
          refine (unhide HSM).mono ?_
          rintro e w7 ⟨rfl, hb7⟩
          have HI7 := hide ((unhide HI6).below hb7)
          clear hb7
          go_wp2
          go_roundw
          case rel => first | exact ⟨j + 1, st4, by omega, by go_num, unhide HI7⟩ | ((repeat apply Exists.intro); exact ⟨⟨j + 1, st4, by omega, rfl, unhide HI7⟩, rfl⟩)
          case measure => simp [intOf]; omega
        · obtain rfl : j = n2 := by omega
          have hno : pl st3 p0 p1 = [] := by
            rw [hI.say, List.drop_eq_nil_iff]
            simp [unhide HN2]
          have HPS := hide (pass_any hI.lnk (unhide H01).1 (unhide H01).2 hI.z)
          obtain ⟨g0, g1⟩ := hI.cells
          have HE : Hid (∀ e w4, PassR y0.heap.size wr P mb st3 p0 p1 e w4 → ∃ c, c ≠ 0 ∧ e = .returned (.tuple #[.agg z17, .int .i64 c]) ∧ Below w.heap.size w w4) := fun e w4 h => by
            rcases pass_pl hI.lnk hI.z h with ⟨_, ⟨c, hc, he⟩, hb⟩ | ⟨m, st4, cs', hpl, _⟩
            · exact ⟨c, hc, he, hI.low.trans (hb.mono hI.low.size)⟩
            · rw [hno] at hpl; cases hpl
          unfold keyV at HPS
          clear hI hno hjn
          go_wp2_with fail
          refine (unhide HPS).mono ?_
          intro e w4 hpass
          obtain ⟨c, hc, rfl, hb⟩ := unhide HE e w4 hpass
          have HB := hide hb
          have d0 : (c != 0) = true := bne_iff_ne.2 hc
          have d1 : (c == 0) = false := beq_eq_false_iff_ne.2 hc
          clear hpass hb HE HPS g0 g1
          go_wp2
          go_ret
          exact ⟨rfl, unhide HB⟩
end Go.Proofs.Ytoddemcmmijoaaa
