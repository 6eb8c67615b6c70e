/- Several texts as one. -/
import Derived.Test.YtoddemcmmijoaaaNJ
import Derived.Test.YtoddemcmmijoaaaNK
import Derived.Test.YtoddemcmmijoaaaLK
import Derived.Test.YtoddemcmmijoaaaKC
import Derived.Laws.Cover3

/- Links in memory: messages in rows of one's own, pipes, and the map of the pipes; what is kept where a pipe turns. -/
namespace Go.Proofs.Ytoddemcmmijoaaa
open Go.RowKit Go.Deep
set_option maxRecDepth 100000

abbrev MV := MsgD × Value × Value × Value
def msgCells (p : MV) : List Value := [.int .i64 p.1.kind, .int .i64 p.1.frm, .int .i64 p.1.to, .int .i64 p.1.term, .int .i64 p.1.slot, .int .i64 p.1.last, .int .i64 p.1.commit, .bool p.1.yes, p.2.1, .int .i64 p.1.ent.kind, .int .i64 p.1.ent.frm, .int .i64 p.1.ent.num, p.2.2.1, .int .i64 p.1.part.slot, .int .i64 p.1.part.idx, .int .i64 p.1.part.many, p.2.2.2]
theorem msgCells_len (p : MV) : (msgCells p).length = 17 := rfl
theorem flatG_len : ∀ vs : List MV, (vs.flatMap msgCells).length = vs.length * 17
  | [] => rfl
  | p :: r => by rw [List.flatMap_cons, List.length_append, flatG_len r, msgCells_len, List.length_cons]; omega
theorem flatG_at : ∀ (vs : List MV) t p, vs[t]? = some p → ∀ k, k < 17 → (vs.flatMap msgCells)[t * 17 + k]? = (msgCells p)[k]?
  | [], t, p, h, k, hk => by simp at h
  | q :: r, 0, p, h, k, hk => by
    obtain rfl := Option.some.inj h
    rw [List.flatMap_cons, Nat.zero_mul, Nat.zero_add, List.getElem?_append_left (by rw [msgCells_len]; exact hk)]
  | q :: r, t + 1, p, h, k, hk => by
    rw [List.flatMap_cons, List.getElem?_append_right (by rw [msgCells_len]; omega), msgCells_len, show (t + 1) * 17 + k - 17 = t * 17 + k by omega]
    exact flatG_at r t p (by simpa using h) k hk

/-- What a message points to is one's own. -/
structure OwnV (base : Nat) (w : World) (p : MV) : Prop where
  list : OwnTms base w p.2.1 p.1.list
  txns : OwnTs base w p.2.2.1 p.1.ent.txns
  data : w.ownsRow base 5 1 p.2.2.2 p.1.part.data.length (ints .u8 p.1.part.data)
theorem OwnM.val {base : Nat} {w : World} {cs : Array Value} {m : MsgD} (h : OwnM base w cs m) : ∃ p : MV, p.1 = m ∧ cs = (msgCells p).toArray ∧ OwnV base w p := by
  obtain ⟨lv, tv, dv, rfl, h1, h2, h3⟩ := h
  exact ⟨(m, lv, tv, dv), rfl, rfl, h1, h2, h3⟩
theorem OwnV.own {base : Nat} {w : World} {p : MV} (h : OwnV base w p) : OwnM base w (msgCells p).toArray p.1 := ⟨_, _, _, rfl, h.list, h.txns, h.data⟩
theorem OwnV.one {base : Nat} {w : World} {p : MV} (h : OwnV base w p) : ∀ u ∈ msgCells p, u.oneCell' = true := by
  obtain ⟨a1, c1, e1⟩ := h.list.shape
  obtain ⟨a2, c2, e2⟩ := h.txns.shape
  obtain ⟨a3, c3, e3⟩ := own_shape h.data
  intro u hu
  simp only [msgCells, List.mem_cons, List.not_mem_nil, or_false] at hu
  rcases hu with rfl | rfl | rfl | rfl | rfl | rfl | rfl | rfl | rfl | rfl | rfl | rfl | rfl | rfl | rfl | rfl | rfl
  all_goals first | rfl | (rw [e1]; rfl) | (rw [e2]; rfl) | (rw [e3]; rfl)
theorem flatG_one {base : Nat} {w : World} : ∀ vs : List MV, (∀ p ∈ vs, OwnV base w p) → ∀ u ∈ vs.flatMap msgCells, u.oneCell' = true
  | [], _, u, h => by cases h
  | p :: r, h, u, hu => by
    rw [List.flatMap_cons, List.mem_append] at hu
    rcases hu with hu | hu
    · exact (h p (List.mem_cons_self ..)).one u hu
    · exact flatG_one r (fun q hq => h q (List.mem_cons_of_mem _ hq)) u hu

/-! ### what is kept where some blocks turn -/
structure Upd (S : Nat → Prop) (w w' : World) : Prop where
  os : w'.os = w.os
  tape : w'.tape = w.tape
  output : w'.output = w.output
  size : w.heap.size ≤ w'.heap.size
  block : ∀ k, k < w.heap.size → ¬ S k → w'.heap[k]? = w.heap[k]?
theorem Upd.refl (S : Nat → Prop) (w : World) : Upd S w w := ⟨rfl, rfl, rfl, Nat.le_refl _, fun _ _ _ => rfl⟩
theorem Upd.trans {S S' : Nat → Prop} {a b c : World} (h : Upd S a b) (k : Upd S' b c) (hS : ∀ j, S' j → S j ∨ a.heap.size ≤ j) : Upd S a c :=
  ⟨k.os.trans h.os, k.tape.trans h.tape, k.output.trans h.output, Nat.le_trans h.size k.size, fun i hi hs => (k.block i (Nat.lt_of_lt_of_le hi h.size) (fun c => (hS i c).elim hs (fun g => by omega))).trans (h.block i hi hs)⟩
theorem Upd.mono {S S' : Nat → Prop} {w w' : World} (h : Upd S w w') (hS : ∀ k, S k → S' k) : Upd S' w w' :=
  ⟨h.os, h.tape, h.output, h.size, fun k hk hs => h.block k hk (fun c => hs (hS k c))⟩
theorem Upd.of {S : Nat → Prop} {w w' : World} (h : Below w.heap.size w w') : Upd S w w' := ⟨h.os, h.tape, h.output, h.size, fun k hk _ => h.block k hk⟩
theorem Upd.grown {S : Nat → Prop} {w w' : World} {row : Option Nat} (h : w.grownBy w' row) (hS : ∀ k, row = some k → S k) : Upd S w w' :=
  ⟨h.os, h.tape, h.output, h.size, fun k hk hs => h.block k hk (fun c => hs (hS k c.symm))⟩
theorem Upd.set {S : Nat → Prop} {w : World} {p : Addr} (hp : S p.block) (u : Value) : Upd S w (w.setCell p u) :=
  ⟨rfl, rfl, rfl, by simp [World.setCell], fun k _ hs => heap_setCell_other w p k u (fun c => hs (by rw [c]; exact hp))⟩
theorem Upd.below {S : Nat → Prop} {w w' : World} {B : Nat} (h : Upd S w w') (hB : B ≤ w.heap.size) (hS : ∀ k, S k → B ≤ k) : Below B w w' :=
  ⟨h.os, h.tape, h.output, h.size, fun k hk => h.block k (by omega) (fun c => by have := hS k c; omega)⟩
theorem own_upd {S : Nat → Prop} {w w' : World} {base e size n : Nat} {v : Value} {xs : List Value} (h : w.ownsRow base e size v n xs) (hu : Upd S w w') (hS : ∀ k cur, w.heap[k]? = some (.cells cur e) → ¬ S k) : w'.ownsRow base e size v n xs := by
  refine ⟨h.1, ?_⟩
  rcases h.2 with hn | ⟨g, cap, cur, hv, hg, hh, r⟩
  · exact .inl hn
  · exact .inr ⟨g, cap, cur, hv, hg, (hu.block g (Array.getElem?_eq_some_iff.1 hh).1 (hS g cur hh)).trans hh, r⟩
theorem own_apartU {S : Nat → Prop} {w w' : World} {base e size n : Nat} {v : Value} {xs : List Value} (h : w.ownsRow base e size v n xs) (hu : Upd S w w') (hS : ∀ k, v.ownBlock = some k → ¬ S k) : w'.ownsRow base e size v n xs := by
  refine ⟨h.1, ?_⟩
  rcases h.2 with hn | ⟨g, cap, cur, rfl, hg, hh, r⟩
  · exact .inl hn
  · exact .inr ⟨g, cap, cur, rfl, hg, (hu.block g (Array.getElem?_eq_some_iff.1 hh).1 (hS g rfl)).trans hh, r⟩

/-- The blocks of S are messages' rows, pipes, links or maps. -/
def LnkS (w : World) (S : Nat → Prop) : Prop := ∀ k, S k → (∃ es c, w.heap[k]? = some (.map es c)) ∨ ∃ cur T mk, w.heap[k]? = some (.cells cur T mk) ∧ (T = 38 ∨ T = 52 ∨ T = 46)
theorem LnkS.not {w : World} {S : Nat → Prop} (h : LnkS w S) {e : TypeId} (he : e ≠ 38 ∧ e ≠ 52 ∧ e ≠ 46) : ∀ k cur, w.heap[k]? = some (.cells cur e) → ¬ S k := fun k cur hk hs => by
  rcases h k hs with ⟨es, c, hm⟩ | ⟨cur', T, mk, hc, hT⟩
  · rw [hk] at hm; cases hm
  · rw [hk] at hc
    cases hc
    rcases hT with hT | hT | hT
    · exact he.1 hT
    · exact he.2.1 hT
    · exact he.2.2 hT
theorem OwnTs.upd {S : Nat → Prop} {base : Nat} {w w' : World} {x : Value} {l : List TxnD} (h : OwnTs base w x l) (hu : Upd S w w') (hS : LnkS w S) : OwnTs base w' x l := by
  obtain ⟨vs, e, hr, ha⟩ := h
  refine ⟨vs, e, own_upd hr hu (hS.not (by decide)), fun p hp => ?_⟩
  obtain ⟨cv, av, rv, wv, q0, q1, q2, q3, q4⟩ := ha p hp
  exact ⟨cv, av, rv, wv, q0, own_upd q1 hu (hS.not (by decide)), own_upd q2 hu (hS.not (by decide)), own_upd q3 hu (hS.not (by decide)), own_upd q4 hu (hS.not (by decide))⟩
theorem OwnTms.upd {S : Nat → Prop} {base : Nat} {w w' : World} {x : Value} {l : List TmD} (h : OwnTms base w x l) (hu : Upd S w w') (hS : LnkS w S) : OwnTms base w' x l := by
  obtain ⟨vs, e, hr, ha⟩ := h
  exact ⟨vs, e, own_upd hr hu (hS.not (by decide)), fun p hp => (ha p hp).upd hu hS⟩
theorem OwnV.upd {S : Nat → Prop} {base : Nat} {w w' : World} {p : MV} (h : OwnV base w p) (hu : Upd S w w') (hS : LnkS w S) : OwnV base w' p :=
  ⟨h.list.upd hu hS, h.txns.upd hu hS, own_upd h.data hu (hS.not (by decide))⟩
theorem OwnV.mono {base base' : Nat} {w : World} {p : MV} (h : OwnV base w p) (hb : base' ≤ base) : OwnV base' w p := ⟨h.list.mono hb, h.txns.mono hb, own_monoN h.data hb⟩
theorem OwnV.below {base : Nat} {w w' : World} {p : MV} (h : OwnV base w p) (hb : Below w.heap.size w w') : OwnV base w' p := ⟨h.list.below hb, h.txns.below hb, own_below h.data hb⟩

/-! ### rows of messages, pipes, links -/
/-- A row of messages that is one's own, with all that they point to. -/
def OwnMs (base : Nat) (w : World) (v : Value) (l : List MsgD) : Prop :=
  ∃ vs : List MV, vs.map (·.1) = l ∧ w.ownsRow base 38 17 v l.length (vs.flatMap msgCells) ∧ ∀ p ∈ vs, OwnV base w p
theorem OwnMs.shape {base : Nat} {w : World} {v : Value} {l : List MsgD} (h : OwnMs base w v l) : ∃ ao cap, v = .slice ao l.length cap := by
  obtain ⟨_, _, h1, _⟩ := h
  exact own_shapeN h1
/-- A pipe: its pair, its block, its messages as they lie and as they are, whether it is cut. -/
structure PD where
  f : Int
  t : Int
  g : Nat
  v : Value
  l : List MsgD
  cut : Bool
def PD.own (q : PD) (k : Nat) : Prop := k = q.g ∨ q.v.ownBlock = some k
structure PipeAt (base : Nat) (w : World) (q : PD) : Prop where
  low : base ≤ q.g
  box : w.heap[q.g]? = some (.cells #[.bool q.cut, q.v] 52)
  row : OwnMs base w q.v q.l
  short : q.l.length ≤ 256
def Born (es : Array MapEntry) (clock : Nat) : Prop := (es.toList.map (·.born)).Nodup ∧ ∀ e ∈ es.toList, e.born < clock
/-- Links: the pointer's block, the map's block, the pipes in the order in which the map has them. -/
structure LInv (base : Nat) (w : World) (P mb : Nat) (st : List PD) : Prop where
  low : base ≤ P
  box : w.heap[P]? = some (.cells #[.map (some mb)] 46)
  map : base ≤ mb ∧ ∃ es clock, w.heap[mb]? = some (.map es clock) ∧ es.toList.map (fun e => (e.key, e.val)) = (st.map fun q => (keyV q.f q.t, .pointer (some ⟨q.g, 0, none⟩))) ∧ Born es clock
  pipe : ∀ q ∈ st, PipeAt base w q
  apart : st.Pairwise fun a b => (∀ k, a.own k → ¬ b.own k) ∧ ¬ (a.f = b.f ∧ a.t = b.t)
  small : ∀ q ∈ st, (0 ≤ q.f ∧ q.f ≤ 4) ∧ 0 ≤ q.t ∧ q.t ≤ 4
def Blocks (P mb : Nat) (st : List PD) (k : Nat) : Prop := k = P ∨ k = mb ∨ ∃ q ∈ st, q.own k
theorem PipeAt.typed {base : Nat} {w : World} {q : PD} (h : PipeAt base w q) : LnkS w q.own := fun k hk => by
  rcases hk with rfl | hk
  · exact .inr ⟨_, _, _, h.box, .inr (.inl rfl)⟩
  · obtain ⟨vs, _, hr, _⟩ := h.row
    rcases hr.2 with ⟨e, _⟩ | ⟨g, cap, cur, e, _, hh, _⟩
    · rw [e] at hk; simp [Value.ownBlock] at hk
    · rw [e] at hk
      simp only [Value.ownBlock, Option.some.injEq] at hk
      subst hk
      exact .inr ⟨_, _, _, hh, .inl rfl⟩
theorem PipeAt.lt {base : Nat} {w : World} {q : PD} (h : PipeAt base w q) {k : Nat} (hk : q.own k) : base ≤ k ∧ k < w.heap.size := by
  rcases hk with rfl | hk
  · exact ⟨h.low, (Array.getElem?_eq_some_iff.1 h.box).1⟩
  · obtain ⟨vs, _, hr, _⟩ := h.row
    exact hr.lt k hk
theorem LInv.typed {base : Nat} {w : World} {P mb : Nat} {st : List PD} (h : LInv base w P mb st) : LnkS w (Blocks P mb st) := fun k hk => by
  rcases hk with rfl | rfl | ⟨q, hq, hk⟩
  · exact .inr ⟨_, _, _, h.box, .inr (.inr rfl)⟩
  · obtain ⟨_, es, c, hm, _⟩ := h.map
    exact .inl ⟨es, c, hm⟩
  · exact (h.pipe q hq).typed k hk
theorem LInv.low' {base : Nat} {w : World} {P mb : Nat} {st : List PD} (h : LInv base w P mb st) {k : Nat} (hk : Blocks P mb st k) : base ≤ k := by
  rcases hk with rfl | rfl | ⟨q, hq, hk⟩
  · exact h.low
  · exact h.map.1
  · exact ((h.pipe q hq).lt hk).1
theorem LInv.lt {base : Nat} {w : World} {P mb : Nat} {st : List PD} (h : LInv base w P mb st) {k : Nat} (hk : Blocks P mb st k) : k < w.heap.size := by
  rcases h.typed k hk with ⟨_, _, e⟩ | ⟨_, _, _, e, _⟩ <;> exact (Array.getElem?_eq_some_iff.1 e).1
/-- Links stay where none of their blocks turns. -/
theorem PipeAt.keep {S : Nat → Prop} {base : Nat} {w w' : World} {q : PD} (h : PipeAt base w q) (hu : Upd S w w') (hS : ∀ k, q.own k → ¬ S k) (hV : LnkS w S) : PipeAt base w' q := by
  refine ⟨h.low, (hu.block _ (Array.getElem?_eq_some_iff.1 h.box).1 (hS _ (.inl rfl))).trans h.box, ?_, h.short⟩
  obtain ⟨vs, e, hr, ha⟩ := h.row
  exact ⟨vs, e, own_apartU hr hu (fun k hk => hS k (.inr hk)), fun p hp => (ha p hp).upd hu hV⟩
theorem LInv.below {base : Nat} {w w' : World} {P mb : Nat} {st : List PD} (h : LInv base w P mb st) (hb : Below w.heap.size w w') : LInv base w' P mb st := by
  have hu : Upd (fun _ => False) w w' := .of hb
  refine ⟨h.low, (hb.block _ (h.lt (.inl rfl))).trans h.box, ?_, fun q hq => (h.pipe q hq).keep hu (fun _ _ c => c) (fun k hk => hk.elim), h.apart, h.small⟩
  obtain ⟨h1, es, c, h2, h3⟩ := h.map
  exact ⟨h1, es, c, (hb.block _ (h.lt (.inr (.inl rfl)))).trans h2, h3⟩
/-- One pipe turns. -/
theorem LInv.turn {base : Nat} {w w' : World} {P mb : Nat} {st : List PD} (h : LInv base w P mb st) {i : Nat} {q q' : PD} (hi : st[i]? = some q) (hu : Upd q.own w w') (hf : q'.f = q.f) (ht : q'.t = q.t) (hg : q'.g = q.g)
    (hp : PipeAt base w' q') (hfresh : ∀ k, q'.own k → q.own k ∨ w.heap.size ≤ k) : LInv base w' P mb (st.set i q') := by
  have hq : q ∈ st := List.mem_of_getElem? hi
  have hil : i < st.length := (List.getElem?_eq_some_iff.1 hi).1
  have hty := (h.pipe q hq).typed
  have nP : ¬ q.own P := fun c => by
    rcases hty P c with ⟨_, _, e⟩ | ⟨_, T, _, e, hT⟩
    · rw [h.box] at e; cases e
    · rcases c with c | c
      · have := (h.pipe q hq).box
        rw [← c, h.box] at this
        simp at this
      · obtain ⟨vs, _, hr, _⟩ := (h.pipe q hq).row
        rcases hr.2 with ⟨e', _⟩ | ⟨g, cap, cur, e', _, hh, _⟩
        · rw [e'] at c; simp [Value.ownBlock] at c
        · rw [e'] at c
          simp only [Value.ownBlock, Option.some.injEq] at c
          subst c
          rw [h.box] at hh
          simp at hh
  have nm : ¬ q.own mb := fun c => by
    obtain ⟨_, es, ck, hm, _⟩ := h.map
    rcases hty mb c with ⟨es', c', e⟩ | ⟨_, T, _, e, hT⟩
    · rcases c with c | c
      · have := (h.pipe q hq).box
        rw [← c, hm] at this
        simp at this
      · obtain ⟨vs, _, hr, _⟩ := (h.pipe q hq).row
        rcases hr.2 with ⟨e', _⟩ | ⟨g, cap, cur, e', _, hh, _⟩
        · rw [e'] at c; simp [Value.ownBlock] at c
        · rw [e'] at c
          simp only [Value.ownBlock, Option.some.injEq] at c
          subst c
          rw [hm] at hh
          simp at hh
    · rw [hm] at e; cases e
  have hap : ∀ j a, st[j]? = some a → j ≠ i → (∀ k, a.own k → ¬ q.own k) ∧ ¬ (a.f = q.f ∧ a.t = q.t) := fun j a hj hne => by
    have hpw := List.pairwise_iff_getElem.1 h.apart
    obtain ⟨hjl, rfl⟩ := List.getElem?_eq_some_iff.1 hj
    obtain ⟨_, rfl⟩ := List.getElem?_eq_some_iff.1 hi
    rcases Nat.lt_or_gt_of_ne hne with c | c
    · exact hpw j i hjl hil c
    · have := hpw i j hil hjl c
      exact ⟨fun k a b => this.1 k b a, fun e => this.2 ⟨e.1.symm, e.2.symm⟩⟩
  refine ⟨h.low, (hu.block _ (h.lt (.inl rfl)) nP).trans h.box, ?_, ?_, ?_, ?_⟩
  · obtain ⟨h1, es, c, h2, h3, h4⟩ := h.map
    refine ⟨h1, es, c, (hu.block _ (h.lt (.inr (.inl rfl))) nm).trans h2, ?_, h4⟩
    rw [h3, List.map_set]
    refine (List.set_getElem?_self' ?_).symm
    rw [List.getElem?_map, hi, hf, ht, hg]
    rfl
  · intro a ha
    obtain ⟨j, hj⟩ := List.getElem?_of_mem ha
    rw [List.getElem?_set] at hj
    by_cases e : i = j
    · rw [if_pos e, if_pos hil] at hj
      obtain rfl := Option.some.inj hj
      exact hp
    · rw [if_neg e] at hj
      exact (h.pipe a (List.mem_of_getElem? hj)).keep hu (fun k hk => (hap j a hj (Ne.symm e)).1 k hk) hty
  · rw [List.pairwise_iff_getElem]
    intro j k hj hk hlt
    have hj' : j < st.length := by simpa using hj
    have hk' : k < st.length := by simpa using hk
    have hpw := List.pairwise_iff_getElem.1 h.apart j k hj' hk' hlt
    rw [List.getElem_set, List.getElem_set]
    by_cases e1 : i = j
    · rw [if_pos e1, if_neg (by omega)]
      have hk2 := hap k st[k] (List.getElem?_eq_getElem hk') (by omega)
      refine ⟨fun b hb hc => ?_, fun e => hk2.2 ⟨e.1.symm.trans hf, e.2.symm.trans ht⟩⟩
      rcases hfresh b hb with c | c
      · exact hk2.1 b hc c
      · have := ((h.pipe _ (List.getElem_mem hk')).lt hc).2
        omega
    · rw [if_neg e1]
      by_cases e2 : i = k
      · rw [if_pos e2]
        have hj2 := hap j st[j] (List.getElem?_eq_getElem hj') (by omega)
        refine ⟨fun b hb hc => ?_, fun e => hj2.2 ⟨e.1.trans hf, e.2.trans ht⟩⟩
        rcases hfresh b hc with c | c
        · exact hj2.1 b hb c
        · have := ((h.pipe _ (List.getElem_mem hj')).lt hb).2
          omega
      · rw [if_neg e2]
        exact hpw
  · intro a ha
    rcases List.mem_or_eq_of_mem_set ha with ha | rfl
    · exact h.small a ha
    · rw [hf, ht]
      exact h.small q hq
end Go.Proofs.Ytoddemcmmijoaaa

/- Links: the pipe of a pair: made, find, findFilled, full, first. -/
namespace Go.Proofs.Ytoddemcmmijoaaa
open Go.RowKit Go.Deep
set_option maxRecDepth 100000

/-- The pipe of a pair, if there is one. -/
def lk (st : List PD) (a b : Int) : Option PD := st.find? fun q => decide (q.f = a ∧ q.t = b)
def ptrOf : Option PD → Value
  | some q => .pointer (some ⟨q.g, 0, none⟩)
  | none => .pointer none
def eOf : Option PD → Int
  | some _ => 0
  | none => 1
theorem lk_some {st : List PD} {a b : Int} {q : PD} (h : lk st a b = some q) : q ∈ st ∧ q.f = a ∧ q.t = b := by
  unfold lk at h
  have hp := List.find?_some h
  exact ⟨List.mem_of_find?_eq_some h, by simpa using hp⟩
theorem wf64 {a : Int} (h : -9223372036854775808 ≤ a ∧ a ≤ 9223372036854775807) : (Lit.int .i64 a).wf = true := by
  have e1 : IntKind.i64.min = -9223372036854775808 := by decide
  have e2 : IntKind.i64.max = 9223372036854775807 := by decide
  simp only [Lit.wf, e1, e2, Bool.and_eq_true, decide_eq_true_eq]
  exact h
theorem keyV_inj {a b c d : Int} (h : keyV a b = keyV c d) : a = c ∧ b = d := by
  simp only [keyV, Value.agg.injEq, Array.mk.injEq, List.cons.injEq, Value.int.injEq, true_and, and_true] at h
  exact h
theorem run_look {base : Nat} {w : World} {P mb : Nat} {st : List PD} (H : LInv base w P mb st) {a b : Int} (ha : -9223372036854775808 ≤ a ∧ a ≤ 9223372036854775807) (hb : -9223372036854775808 ≤ b ∧ b ≤ 9223372036854775807) :
    (Instr.lookup 44 (.map (some mb)) (keyV a b) false).run Try.prog w = .ok (ptrOf (lk st a b)) w := by
  obtain ⟨_, es, clock, hm, hes, _⟩ := H.map
  obtain ⟨s, hs⟩ := keyOf_way (wf64 ha) (wf64 hb)
  have hent : ∀ e ∈ es.toList, ∃ q ∈ st, e.key = keyV q.f q.t ∧ e.val = .pointer (some ⟨q.g, 0, none⟩) := fun e he => by
    have : (e.key, e.val) ∈ es.toList.map (fun e => (e.key, e.val)) := List.mem_map.2 ⟨e, he, rfl⟩
    rw [hes] at this
    obtain ⟨q, hq, e1⟩ := List.mem_map.1 this
    simp only [Prod.mk.injEq] at e1
    exact ⟨q, hq, e1.1.symm, e1.2.symm⟩
  have hrev : ∀ q ∈ st, ∃ e ∈ es.toList, e.key = keyV q.f q.t := fun q hq => by
    have : (keyV q.f q.t, Value.pointer (some ⟨q.g, 0, none⟩)) ∈ es.toList.map (fun e => (e.key, e.val)) := by rw [hes]; exact List.mem_map.2 ⟨q, hq, rfl⟩
    obtain ⟨e, he, e1⟩ := List.mem_map.1 this
    simp only [Prod.mk.injEq] at e1
    exact ⟨e, he, e1.1⟩
  have hall : ∀ e ∈ es.toList, ∃ l, keyOf Try.prog 24 e.key = some l := fun e he => by
    obtain ⟨q, hq, e1, _⟩ := hent e he
    have := H.small q hq
    rw [e1]
    exact keyOf_way (wf64 (by omega)) (wf64 (by omega))
  rcases way_law.find w hs es.toList hall with ⟨h1, h2⟩ | ⟨j, e0, h1, h2, h3⟩
  · have hl : lk st a b = none := by
      unfold lk
      rw [List.find?_eq_none]
      intro q hq
      simp only [decide_eq_true_eq]
      rintro ⟨rfl, rfl⟩
      obtain ⟨e, he, e1⟩ := hrev q hq
      exact h2 e he e1
    rw [hl]
    simp [Instr.lookup, run_underlying Try.underlying44, MapKept.run_getObj_map hm, way_law.check w _ hs, h1, Result.andThen, ptrOf]
  · have hm0 : e0 ∈ es.toList := List.mem_of_getElem? h2
    obtain ⟨q, hq, e1, e2⟩ := hent e0 hm0
    obtain ⟨e3, e4⟩ := keyV_inj (e1.symm.trans h3)
    have hl : lk st a b = some q := by
      unfold lk
      cases hf : st.find? (fun q => decide (q.f = a ∧ q.t = b)) with
      | none =>
        rw [List.find?_eq_none] at hf
        exact absurd (decide_eq_true ⟨e3, e4⟩) (hf q hq)
      | some r =>
        obtain ⟨r1, r2, r3⟩ := lk_some hf
        obtain ⟨i, hi, rfl⟩ := List.getElem_of_mem hq
        obtain ⟨k, hk, rfl⟩ := List.getElem_of_mem r1
        have hpw := List.pairwise_iff_getElem.1 H.apart
        rcases Nat.lt_trichotomy i k with c | c | c
        · exact absurd ⟨e3.trans r2.symm, e4.trans r3.symm⟩ (hpw i k hi hk c).2
        · subst c; rfl
        · exact absurd ⟨r2.trans e3.symm, r3.trans e4.symm⟩ (hpw k i hk hi c).2
    rw [hl]
    simp [Instr.lookup, run_underlying Try.underlying44, MapKept.run_getObj_map hm, way_law.check w _ hs, h1, Result.andThen, ptrOf, e2]

abbrev P0 (h : Nat) : Value := .pointer (some ⟨h, 0, none⟩)
theorem made_any {base : Nat} {w : World} {P mb : Nat} {st : List PD} (H : LInv base w P mb st) :
    Calls Try.prog 26 #[P0 P] w fun e w' => e = .returned (.bool true) ∧ w = w' := by
  have hc : w.cell? ⟨P, 0, none⟩ = some (.map (some mb)) := by rw [cell_heapM H.box]; rfl
  have hE := fun (w : World) (m : Option Nat) => run_neq_map_nil (P := Try.prog) w 44 24 50 m Try.underlying44
  clear H
  go_enter Try.func26, Try.ntmps26
  go_wp2
  go_ret
  exact ⟨rfl, rfl⟩
theorem lk_at {st : List PD} {a b : Int} {q : PD} (h : lk st a b = some q) : ∃ i : Nat, st[i]? = some q := List.getElem?_of_mem (lk_some h).1
theorem below_box {w : World} (cs : Array Value) (T : TypeId) : Below w.heap.size w (w.alloc (.cells cs T)) := (Below.refl _ _).alloc (Nat.le_refl _) _

set_option maxHeartbeats 800000 in
theorem find_any {base : Nat} {w : World} {P mb : Nat} {st : List PD} (H : LInv base w P mb st) {a b : Int} (ha : -9223372036854775808 ≤ a ∧ a ≤ 9223372036854775807) (hb : -9223372036854775808 ≤ b ∧ b ≤ 9223372036854775807) :
    Calls Try.prog 14 #[P0 P, keyV a b] w fun e w' => e = .returned (.tuple #[ptrOf (lk st a b), .int .i64 (eOf (lk st a b))]) ∧ Below w.heap.size w w' := by
  have HW : Hid (∀ x, Below w.heap.size w x → LInv base x P mb st) := fun x hx => H.below hx
  have HL : Hid (∀ x, Below w.heap.size w x → (Instr.lookup 44 (.map (some mb)) (keyV a b) false).run Try.prog x = .ok (ptrOf (lk st a b)) x) := fun x hx => run_look (unhide HW x hx) ha hb
  have HC : Hid (∀ x, Below w.heap.size w x → x.cell? ⟨P, 0, none⟩ = some (.map (some mb))) := fun x hx => by rw [cell_heapM (unhide HW x hx).box]; rfl
  have HM : Hid (∀ x, Below w.heap.size w x → Calls Try.prog 26 #[P0 P] x fun e w' => e = .returned (.bool true) ∧ x = w') := fun x hx => made_any (unhide HW x hx)
  have hB0 := below_box (w := w) #[.int .i64 a, .int .i64 b] 24
  have HB0 := hide hB0
  have HBD : Hid (Below w.heap.size w (w.alloc (.cells #[.int .i64 a, .int .i64 b] 24)).drew ∧ Below (w.heap.size + 1) (w.alloc (.cells #[.int .i64 a, .int .i64 b] 24)) (w.alloc (.cells #[.int .i64 a, .int .i64 b] 24)).drew) := ⟨hB0.drew, (Below.refl _ _).drew⟩
  have HK : Hid (∀ x, Below (w.heap.size + 1) (w.alloc (.cells #[.int .i64 a, .int .i64 b] 24)) x → x.heap[w.heap.size]? = some (.cells #[.int .i64 a, .int .i64 b] 24)) := fun x hx => (hx.block _ (Nat.lt_succ_self _)).trans (heap_alloc_new w _)
  clear H hB0
  unfold keyV at *
  go_enter Try.func14, Try.ntmps14
  go_wp2_with (go_at_call 26; refine (unhide HM _ (unhide HB0)).mono ?_; rintro e w1 ⟨rfl, rfl⟩)
  refine wp_region_held_drew (S := fun x => Below w.heap.size w x ∧ x.cell? ⟨w.heap.size, 0, none⟩ = some (.int .i64 a) ∧ x.cell? ⟨w.heap.size, 1, none⟩ = some (.int .i64 b)) (by kernel_rfl) ⟨(unhide HBD).1, cell_of_heap' (unhide HK _ (unhide HBD).2), cell_of_heap' (unhide HK _ (unhide HBD).2)⟩ (fun hHeld => ?_)
  refine wpAnyH_take (i := 0) (v := ?v1x0) rfl (by kernel_rfl) (by kernel_rfl) (by kernel_rfl) (fun _ _ _ h => h) (Or.inl ⟨by rfl, ?hy1x0⟩) (by assumption) ?rest1x0
  case hy1x0 => intro w hSw; obtain ⟨gB, g0, g1⟩ := hSw; go_simp <;> with_reducible rfl
  simp only [Act.put, List.getElem_toArray, List.getElem_cons_zero, List.setIfInBounds_toArray, List.set_cons_zero, List.set_cons_succ]
  refine wpAnyH_take (i := 1) (v := ?v2x1) rfl (by kernel_rfl) (by kernel_rfl) (by kernel_rfl) (fun _ _ _ h => h) (Or.inl ⟨by rfl, ?hy2x1⟩) (by assumption) ?rest2x1
  case hy2x1 => intro w hSw; obtain ⟨gB, g0, g1⟩ := hSw; go_simp <;> with_reducible rfl
  simp only [Act.put, List.getElem_toArray, List.getElem_cons_zero, List.getElem_cons_succ, List.setIfInBounds_toArray, List.set_cons_zero, List.set_cons_succ]
  refine wpAnyH_take (i := 2) (v := ?v3x2) rfl (by kernel_rfl) (by kernel_rfl) (by kernel_rfl) (fun _ _ _ h => h) (Or.inl ⟨by rfl, ?hy3x2⟩) (by assumption) ?rest3x2
  case hy3x2 => intro w hSw; obtain ⟨gB, g0, g1⟩ := hSw; go_simp <;> with_reducible rfl
  simp only [Act.put, List.getElem_toArray, List.getElem_cons_zero, List.getElem_cons_succ, List.setIfInBounds_toArray, List.set_cons_zero, List.set_cons_succ]
  refine wpAnyH_take (i := 3) (v := (.map (some mb))) rfl (by kernel_rfl) (by kernel_rfl) (by kernel_rfl) (fun _ _ _ h => h) (Or.inl ⟨by rfl, ?hy4x3⟩) (by assumption) ?rest4x3
  case hy4x3 => intro w hSw; obtain ⟨gB, g0, g1⟩ := hSw; have g3 := unhide HC _ gB; go_simp <;> with_reducible rfl
  simp only [Act.put, List.getElem_toArray, List.getElem_cons_zero, List.getElem_cons_succ, List.setIfInBounds_toArray, List.set_cons_zero, List.set_cons_succ]
  refine wpAnyH_take (i := 4) (v := (.agg #[.int .i64 a, .int .i64 b])) rfl (by kernel_rfl) (by kernel_rfl) (by kernel_rfl) (fun _ _ _ h => h) (Or.inl ⟨by rfl, ?hy5x4⟩) (by assumption) ?rest5x4
  case hy5x4 => intro w hSw; obtain ⟨gB, g0, g1⟩ := hSw; go_simp <;> with_reducible rfl
  simp only [Act.put, List.getElem_toArray, List.getElem_cons_zero, List.getElem_cons_succ, List.setIfInBounds_toArray, List.set_cons_zero, List.set_cons_succ]
  refine wpAnyH_take (i := 5) (v := (ptrOf (lk st a b))) rfl (by kernel_rfl) (by kernel_rfl) (by kernel_rfl) (fun _ _ _ h => h) (Or.inl ⟨by rfl, ?hy6x5⟩) (by assumption) ?rest6x5
  case hy6x5 => intro w hSw; obtain ⟨gB, g0, g1⟩ := hSw; have g5 := unhide HL _ gB; go_simp <;> with_reducible rfl
  simp only [Act.put, List.getElem_toArray, List.getElem_cons_zero, List.getElem_cons_succ, List.setIfInBounds_toArray, List.set_cons_zero, List.set_cons_succ]
  refine wpAnyH_take (i := 6) (v := ?v7x6) rfl (by kernel_rfl) (by kernel_rfl) (by kernel_rfl) (fun _ _ _ h => h) (Or.inl ⟨by rfl, ?hy7x6⟩) (by assumption) ?rest7x6
  case hy7x6 => intro w hSw; obtain ⟨gB, g0, g1⟩ := hSw; go_simp <;> with_reducible rfl
  simp only [Act.put, List.getElem_toArray, List.getElem_cons_zero, List.getElem_cons_succ, List.setIfInBounds_toArray, List.set_cons_zero, List.set_cons_succ]
  refine wpAnyH_done (by kernel_rfl) ?_ _
  have HF := unhide HBD
  cases hq : lk st a b with
  | none =>
    simp only [ptrOf]
    go_wp2
    go_ret2
    exact ⟨by rw [hq]; rfl, HF.1⟩
  | some q =>
    simp only [ptrOf]
    go_wp2
    go_ret2
    exact ⟨by rw [hq]; rfl, HF.1⟩
set_option maxHeartbeats 400000 in
theorem full_any {base : Nat} {w : World} {q : PD} (H : PipeAt base w q) :
    Calls Try.prog 15 #[P0 q.g] w fun e w' => e = .returned (.bool (decide (256 ≤ q.l.length))) ∧ w = w' := by
  obtain ⟨ao, cap, hv⟩ := H.row.shape
  have hc : w.cell? ⟨q.g, 1, none⟩ = some (.slice ao q.l.length cap) := by rw [cell_heapM H.box, hv]; rfl
  have hd : decide ((256 : Int) ≤ (q.l.length : Int)) = decide (256 ≤ q.l.length) := by rw [decide_eq_decide]; omega
  clear H hv
  go_enter Try.func15, Try.ntmps15
  go_wp2
  go_ret
  exact ⟨rfl, rfl⟩

/-! ### findFilled -/
theorem PipeAt.cell1 {base : Nat} {w : World} {q : PD} (H : PipeAt base w q) : w.cell? ⟨q.g, 1, none⟩ = some q.v := by rw [cell_heapM H.box]; rfl
theorem PipeAt.cell0 {base : Nat} {w : World} {q : PD} (H : PipeAt base w q) : w.cell? ⟨q.g, 0, none⟩ = some (.bool q.cut) := by rw [cell_heapM H.box]; rfl
/-- What findFilled answers. -/
def FF (st : List PD) (a b : Int) (e : Ending) : Prop := (lk st a b = none ∧ e = .returned (.tuple #[.pointer none, .int .i64 1])) ∨ (∃ q, lk st a b = some q ∧ q.l.length = 0 ∧ e = .returned (.tuple #[.pointer none, .int .i64 4])) ∨ (∃ q, lk st a b = some q ∧ 0 < q.l.length ∧ e = .returned (.tuple #[P0 q.g, .int .i64 0]))
set_option maxHeartbeats 800000 in
theorem ff_any {base : Nat} {w : World} {P mb : Nat} {st : List PD} (H : LInv base w P mb st) {a b : Int} (ha : -9223372036854775808 ≤ a ∧ a ≤ 9223372036854775807) (hb : -9223372036854775808 ≤ b ∧ b ≤ 9223372036854775807) :
    Calls Try.prog 19 #[P0 P, keyV a b] w fun e w' => FF st a b e ∧ Below w.heap.size w w' := by
  have HW : Hid (∀ x, Below w.heap.size w x → LInv base x P mb st) := fun x hx => H.below hx
  have hB0 := below_box (w := w) #[.int .i64 a, .int .i64 b] 24
  have HF := hide (find_any (unhide HW _ hB0) ha hb)
  have HB0 := hide hB0
  have hbx : (w.alloc (.cells #[.int .i64 a, .int .i64 b] 24)).heap[w.heap.size]? = some (.cells #[.int .i64 a, .int .i64 b] 24) := heap_alloc_new w _
  have g0 : (w.alloc (.cells #[.int .i64 a, .int .i64 b] 24)).cell? ⟨w.heap.size, 0, none⟩ = some (.int .i64 a) := cell_of_heap' hbx
  have g1 : (w.alloc (.cells #[.int .i64 a, .int .i64 b] 24)).cell? ⟨w.heap.size, 1, none⟩ = some (.int .i64 b) := cell_of_heap' hbx
  clear H hB0 hbx
  unfold keyV at *
  cases hq : lk st a b with
  | none =>
    rw [hq] at HF
    simp only [ptrOf, eOf] at HF
    go_enter Try.func19, Try.ntmps19
    go_wp2_with (go_at_call 14; refine (unhide HF).mono ?_; rintro e w1 ⟨rfl, hb1⟩)
    have hb2 := (unhide HB0).trans (hb1.mono (by simp))
    go_wp2
    go_ret2
    exact ⟨.inl ⟨hq, rfl⟩, hb2⟩
  | some q =>
    rw [hq] at HF
    simp only [ptrOf, eOf] at HF
    have hqm := (lk_some hq).1
    have HQ : Hid (∀ x, Below w.heap.size w x → x.cell? ⟨q.g, 1, none⟩ = some q.v) := fun x hx => ((unhide HW x hx).pipe q hqm).cell1
    obtain ⟨ao, cap, hv⟩ := ((unhide HW w (Below.refl _ _)).pipe q hqm).row.shape
    rw [hv] at HQ
    clear hv
    rcases Nat.eq_zero_or_pos q.l.length with h0 | h0
    · rw [h0] at HQ
      have HZ := hide h0
      clear h0
      go_enter Try.func19, Try.ntmps19
      go_wp2_with (go_at_call 14; refine (unhide HF).mono ?_; rintro e w1 ⟨rfl, hb1⟩; have hb2 := (unhide HB0).trans (hb1.mono (by simp)); have c1 := unhide HQ w1 hb2)
      go_wp2
      go_ret2
      exact ⟨.inr (.inl ⟨q, hq, unhide HZ, rfl⟩), hb2⟩
    · obtain ⟨n, hn⟩ : ∃ n, q.l.length = n := ⟨_, rfl⟩
      rw [hn] at HQ h0
      have HZ : Hid (0 < q.l.length) := by rw [hn]; exact h0
      have hne : decide ((n : Int) = 0) = false := decide_eq_false (by omega)
      clear hn
      go_enter Try.func19, Try.ntmps19
      go_wp2_with (go_at_call 14; refine (unhide HF).mono ?_; rintro e w1 ⟨rfl, hb1⟩; have hb2 := (unhide HB0).trans (hb1.mono (by simp)); have c1 := unhide HQ w1 hb2)
      go_wp2
      go_ret2
      exact ⟨.inr (.inr ⟨q, hq, unhide HZ, rfl⟩), hb2⟩

/-! ### first -/
theorem info38s : (Try.prog.info? 38).map (·.size) = some 17 := by kernel_rfl
theorem PipeAt.front {base : Nat} {w : World} {q : PD} (H : PipeAt base w q) (hl : 0 < q.l.length) : ∃ (p : MV) (r : List MV) (g cap : Nat), q.l = p.1 :: r.map (·.1) ∧ q.v = .slice (some ⟨g, 0, none⟩) q.l.length cap ∧ (∀ x, Below w.heap.size w x → x.rangeAt g 0 (msgCells p)) ∧ OwnV base w p := by
  obtain ⟨vs, hvs, hr, ha⟩ := H.row
  rcases hr.2 with ⟨_, h0⟩ | ⟨g, cap, cur, hv, hg, hh, hnc, hcm, hcs, htk⟩
  · omega
  · cases vs with
    | nil => rw [← hvs] at hl; simp at hl
    | cons p r =>
      refine ⟨p, r, g, cap, hvs.symm, hv, fun x hx j u hu => ?_, ha p (List.mem_cons_self ..)⟩
      have hx' : x.heap[g]? = some (.cells cur 38) := (hx.block _ (Array.getElem?_eq_some_iff.1 hh).1).trans hh
      rw [cell_heapM hx', Nat.zero_add]
      have hj : j < 17 := by have := (List.getElem?_eq_some_iff.1 hu).1; rwa [msgCells_len] at this
      have h1 : (cur.toList.take (q.l.length * 17))[j]? = some u := by
        rw [htk, List.flatMap_cons, List.getElem?_append_left (by rw [msgCells_len]; exact hj)]
        exact hu
      rw [List.getElem?_take, if_pos (by omega)] at h1
      simpa using h1
set_option maxHeartbeats 800000 in
theorem first_any {base : Nat} {w : World} {q : PD} (H : PipeAt base w q) (hl : 0 < q.l.length) :
    Calls Try.prog 20 #[P0 q.g] w fun e w' => ∃ p : MV, e = .returned (.agg (msgCells p).toArray) ∧ (∃ r, q.l = p.1 :: r) ∧ OwnV base w' p ∧ Below w.heap.size w w' := by
  obtain ⟨p, r, g, cap, hpl, hv, hra, hov⟩ := H.front hl
  have hone : (msgCells p).toArray.all (·.oneCell') = true := by simpa using hov.one
  have hlen : (msgCells p).toArray.size = 17 := by simp [msgCells]
  have hlenL : (msgCells p).length = 17 := rfl
  have HP : Hid ((∃ r, q.l = p.1 :: r) ∧ OwnV base w p) := ⟨⟨_, hpl⟩, hov⟩
  obtain ⟨n, hn⟩ : ∃ n, q.l.length = n := ⟨_, rfl⟩
  rw [hn] at hv hl
  have c1 := H.cell1
  rw [hv] at c1
  obtain ⟨cs, hcs⟩ : ∃ c, msgCells p = c := ⟨_, rfl⟩
  rw [hcs] at hone hlen hlenL hra
  have HCS := hide hcs
  have HRA := hide hra
  have hB := below_box (w := w) #[.int .i64 0, .int .i64 0, .int .i64 0, .int .i64 0, .int .i64 0, .int .i64 0, .int .i64 0, .bool false, .slice none 0 0, .int .i64 0, .int .i64 0, .int .i64 0, .slice none 0 0, .int .i64 0, .int .i64 0, .int .i64 0, .slice none 0 0] 38
  have hZ : (w.alloc (.cells #[.int .i64 0, .int .i64 0, .int .i64 0, .int .i64 0, .int .i64 0, .int .i64 0, .int .i64 0, .bool false, .slice none 0 0, .int .i64 0, .int .i64 0, .int .i64 0, .slice none 0 0, .int .i64 0, .int .i64 0, .int .i64 0, .slice none 0 0] 38)).heap[w.heap.size]? = some (.cells #[.int .i64 0, .int .i64 0, .int .i64 0, .int .i64 0, .int .i64 0, .int .i64 0, .int .i64 0, .bool false, .slice none 0 0, .int .i64 0, .int .i64 0, .int .i64 0, .slice none 0 0, .int .i64 0, .int .i64 0, .int .i64 0, .slice none 0 0] 38) := heap_alloc_new w _
  obtain ⟨y0, hy0⟩ : ∃ y, w.alloc (.cells #[.int .i64 0, .int .i64 0, .int .i64 0, .int .i64 0, .int .i64 0, .int .i64 0, .int .i64 0, .bool false, .slice none 0 0, .int .i64 0, .int .i64 0, .int .i64 0, .slice none 0 0, .int .i64 0, .int .i64 0, .int .i64 0, .slice none 0 0] 38) = y := ⟨_, rfl⟩
  rw [hy0] at hB hZ
  have c2 : y0.cell? ⟨q.g, 1, none⟩ = some (.slice (some ⟨g, 0, none⟩) n cap) := (hB.cell (p := ⟨q.g, 1, none⟩) (World.block_lt_of_cell? w _ c1)).trans c1
  have HZ := hide hZ
  have HB := hide hB
  have HB9 : Hid (Below w.heap.size w (y0.setRow w.heap.size cs.toArray)) := below_setRow hB (Nat.le_refl _)
  have HZ9 : Hid ((y0.setRow w.heap.size cs.toArray).heap[w.heap.size]? = some (.cells cs.toArray 38)) := setRow_heap _ _ _ _ _ _ hZ
  obtain ⟨y9, hy9⟩ : ∃ y, y0.setRow w.heap.size cs.toArray = y := ⟨_, rfl⟩
  rw [hy9] at HB9 HZ9
  clear hov hpl hv hra hn hcs hB hZ c1
  go_enter Try.func20, Try.ntmps20
  go_wp2_with (first | rw [hy0] | rw [hy9] | refine wpList_load_mid rfl 38 _ rfl g 0 rfl cs _ (unhide HRA _ (unhide HB)) Try.underlying38 rfl (by rw [hlenL]; exact info38s) ?_ | refine wpList_store_row rfl 38 _ _ rfl w.heap.size _ _ rfl rfl 38 (unhide HZ) (by rw [hlen]; exact info38s) (by rw [hlen]; rfl) hone ?_)
  refine bodyPost_ret (results_cell_row rfl _ _ w.heap.size 38 cs.toArray (0, 0) _ rfl (unhide HZ9) Try.underlying38 rfl (by rw [hlen]; exact info38s)) rfl ?_
  exact ⟨p, by rw [unhide HCS], (unhide HP).1, (unhide HP).2.below (unhide HB9), unhide HB9⟩
end Go.Proofs.Ytoddemcmmijoaaa
