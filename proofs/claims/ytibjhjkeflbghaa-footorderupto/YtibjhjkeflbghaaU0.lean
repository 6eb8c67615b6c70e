/- Who wants which key, in memory: a map by keys of two rows of places each, all in blocks apart. -/
import Derived.Test.YtibjhjkeflbghaaO4
import Derived.Test.YtibjhjkeflbghaaR5
namespace Go.Proofs.Ytibjhjkeflbghaa
open Go.RowKit
set_option maxRecDepth 100000

def upS {α : Type} (S : Ky → Bool → α) (k0 : Ky) (d0 : Bool) (u : α) : Ky → Bool → α := fun k d => if k = k0 ∧ d = d0 then u else S k d
theorem upS_same {α : Type} (S : Ky → Bool → α) (k0 : Ky) (d0 : Bool) (u : α) : upS S k0 d0 u k0 d0 = u := by simp [upS]
theorem upS_other {α : Type} (S : Ky → Bool → α) {k0 k : Ky} {d0 d : Bool} (u : α) (h : ¬ (k = k0 ∧ d = d0)) : upS S k0 d0 u k d = S k d := by simp [upS, h]
/-- Rows of places by keys, all of them (false) and those that want it alone (true), each in a block of its own from N on. -/
structure Rows (N : Nat) (w : World) (S : Ky → Bool → Value) (V : Ky → Bool → List Int) : Prop where
  own : ∀ k d, w.ownsRow N 3 1 (S k d) (V k d).length ((V k d).flatMap nC)
  ap : ∀ k d k' d' g, (S k d).ownBlock = some g → (S k' d').ownBlock = some g → k = k' ∧ d = d'
theorem Rows.below {N : Nat} {w w' : World} {S : Ky → Bool → Value} {V : Ky → Bool → List Int} (h : Rows N w S V) (hb : Below w.heap.size w w') : Rows N w' S V := ⟨fun k d => own_below (h.own k d) hb, h.ap⟩
/-- One more place in one of the rows. -/
theorem Rows.app {N n : Nat} {w Z : World} {S : Ky → Bool → Value} {V : Ky → Bool → List Int} (h : Rows N w S V) (k0 : Ky) (d0 : Bool) (hn : (V k0 d0).length = n) (hl : n ≤ 1048576) {i : Int} (hZ : w.alloc (.cells #[.int .i64 i] 3) = Z) (hN : N ≤ w.heap.size) :
    ∃ ao cap y, (Builtin.append_ #[30, 30] 30 #[S k0 d0, .slice (some ⟨w.heap.size, 0, none⟩) 1 1]).run Try.prog Z = .ok (.slice ao (n + 1) cap) y ∧ Rows N y (upS S k0 d0 (.slice ao (n + 1) cap)) (upS V k0 d0 (V k0 d0 ++ [i])) ∧ Z.grownBy y (S k0 d0).ownBlock ∧ Z.ownsRow N 3 1 (S k0 d0) n ((V k0 d0).flatMap nC) ∧ Below N w y := by
  subst hn
  have bZ : Below w.heap.size w Z := hZ ▸ below_box _
  have h1 := h.below bZ
  have hNZ : N ≤ Z.heap.size := Nat.le_trans hN bZ.size
  obtain ⟨ao, cap, y, hr, h2, h3, h4⟩ := append_intF (h1.own k0 d0) (sees_oneN' w i hZ) (by omega) hNZ 30
  refine ⟨ao, cap, y, hr, ⟨fun k d => ?_, fun k d k' d' g hg hg' => ?_⟩, h3, h1.own k0 d0, (bZ.mono hN).trans ((Below.refl _ _).grown h3 hNZ (own_block_le (h1.own k0 d0)))⟩
  · by_cases e : k = k0 ∧ d = d0
    · obtain ⟨rfl, rfl⟩ := e
      rw [upS_same, upS_same, List.length_append]
      exact h2
    · rw [upS_other _ _ e, upS_other _ _ e]
      exact own_gr (h1.own k0 d0) h3 (h1.own k d) (.inr fun g hg hg' => e (by obtain ⟨e1, e2⟩ := h1.ap _ _ _ _ _ hg' hg; exact ⟨e1, e2⟩))
  · by_cases e : k = k0 ∧ d = d0
    · by_cases e' : k' = k0 ∧ d' = d0
      · exact ⟨e.1.trans e'.1.symm, e.2.trans e'.2.symm⟩
      · rw [upS_other _ _ e'] at hg'
        obtain ⟨rfl, rfl⟩ := e
        rw [upS_same] at hg
        rcases h4 g hg with c | c
        · obtain ⟨e1, e2⟩ := h1.ap _ _ _ _ _ c hg'
          exact ⟨e1, e2⟩
        · have := own_in (h1.own k' d') hg'
          omega
    · rw [upS_other _ _ e] at hg
      by_cases e' : k' = k0 ∧ d' = d0
      · obtain ⟨rfl, rfl⟩ := e'
        rw [upS_same] at hg'
        rcases h4 g hg' with c | c
        · obtain ⟨e1, e2⟩ := h1.ap _ _ _ _ _ hg c
          exact ⟨e1, e2⟩
        · have := own_in (h1.own k d) hg
          omega
      · rw [upS_other _ _ e'] at hg'
        exact h1.ap _ _ _ _ _ hg hg'
theorem box_gr' {Z y : World} {B n b : Nat} {pv : Value} {xs : List Value} {cs : Array Value} {T : TypeId} (hT : T ≠ 3) (ho : Z.ownsRow B 3 1 pv n xs) (hg : Z.grownBy y pv.ownBlock) (hb : Z.heap[b]? = some (.cells cs T)) : y.heap[b]? = some (.cells cs T) := by
  refine (hg.block b (Array.getElem?_eq_some_iff.1 hb).1 (fun e' => ?_)).trans hb
  rcases ho.2 with ⟨rfl, _⟩ | ⟨g2, cap2, cur2, rfl, _, h2, _⟩
  · simp [Value.ownBlock] at e'
  · simp only [Value.ownBlock, Option.some.injEq] at e'
    subst e'
    rw [hb] at h2
    simp only [Option.some.injEq, Obj.cells.injEq] at h2
    exact hT h2.2.1
theorem map_gr {Z y : World} {B n mb : Nat} {pv : Value} {xs : List Value} {f : Ky → Option Value} (ho : Z.ownsRow B 3 1 pv n xs) (hg : Z.grownBy y pv.ownBlock) (hm : MapS Z mb f) : MapS y mb f := by
  refine hm.keep (hg.block mb hm.lt (fun e' => ?_))
  rcases ho.2 with ⟨rfl, _⟩ | ⟨g2, cap2, cur2, rfl, _, h2, _⟩
  · simp [Value.ownBlock] at e'
  · simp only [Value.ownBlock, Option.some.injEq] at e'
    exact hm.apart h2 e'.symm
theorem Try.under77 : Try.prog.underlying 77 = some (.map 37 102) := by kernel_rfl
/-- The map and its rows. -/
structure Asks (N : Nat) (w : World) (mb : Nat) (S : Ky → Bool → Value) (V : Ky → Bool → List Int) : Prop where
  map : ∃ f, MapS w mb f ∧ ∀ k, (f k).getD (.agg #[.slice none 0 0, .slice none 0 0]) = .agg #[S k false, S k true]
  rows : Rows N w S V
theorem Asks.below {N mb : Nat} {w w' : World} {S : Ky → Bool → Value} {V : Ky → Bool → List Int} (h : Asks N w mb S V) (hb : Below w.heap.size w w') : Asks N w' mb S V := by
  obtain ⟨f, h1, h2⟩ := h.map
  exact ⟨⟨f, h1.below hb, h2⟩, h.rows.below hb⟩
theorem Asks.look {N mb : Nat} {w : World} {S : Ky → Bool → Value} {V : Ky → Bool → List Int} (h : Asks N w mb S V) (a b : Int) (hk : OkK (a, b)) :
    (Instr.lookup 77 (.map (some mb)) (.agg #[.int .i32 a, .int .i64 b]) false).run Try.prog w = .ok (.agg #[S (a, b) false, S (a, b) true]) w := by
  obtain ⟨f, h1, h2⟩ := h.map
  have := h1.look1 Try.under77 (z := .agg #[.slice none 0 0, .slice none 0 0]) Try.zeroValue102 a b hk
  rw [h2] at this
  exact this
theorem Asks.start (w : World) {N : Nat} : Asks N (w.alloc (.map #[] 0)) w.heap.size (fun _ _ => .slice none 0 0) (fun _ _ => []) :=
  ⟨⟨_, MapS.start w, fun _ => rfl⟩, ⟨fun _ _ => own_nil _ _ _ _, fun _ _ _ _ g h => by simp [Value.ownBlock] at h⟩⟩
/-- A block that is no row of these, below N, has turned. -/
theorem Asks.keep {N mb g : Nat} {w w' : World} {S : Ky → Bool → Value} {V : Ky → Bool → List Int} (h : Asks N w mb S V) (hg : g < N) (hm : g ≠ mb) (hk : ∀ j, j ≠ g → w'.heap[j]? = w.heap[j]?) : Asks N w' mb S V := by
  obtain ⟨f, h1, h2⟩ := h.map
  refine ⟨⟨f, h1.keep (hk mb (Ne.symm hm)), h2⟩, ⟨fun k d => ?_, h.rows.ap⟩⟩
  have ho := h.rows.own k d
  refine ⟨ho.1, ?_⟩
  rcases ho.2 with hn | ⟨g', cap', cur, hv', hb', hh, r⟩
  · exact .inl hn
  · exact .inr ⟨g', cap', cur, hv', hb', (hk g' (by omega)).trans hh, r⟩
/-- The map set to what the rows say of a key. -/
theorem Asks.put {N mb : Nat} {w : World} {S S' : Ky → Bool → Value} {V : Ky → Bool → List Int} {f : Ky → Option Value} (hf : MapS w mb f) (h1 : ∀ k, (f k).getD (.agg #[.slice none 0 0, .slice none 0 0]) = .agg #[S k false, S k true]) (hr : Rows N w S' V) (a b : Int) (hk : OkK (a, b)) (hs : ∀ k d, k ≠ (a, b) → S' k d = S k d) :
    ∃ y, (Instr.mapUpdate 77 (.map (some mb)) (.agg #[.int .i32 a, .int .i64 b]) (.agg #[S' (a, b) false, S' (a, b) true])).run Try.prog w = .ok () y ∧ Asks N y mb S' V ∧ (∀ j, j ≠ mb → y.heap[j]? = w.heap[j]?) ∧ y.heap.size = w.heap.size ∧ y.os = w.os ∧ y.tape = w.tape ∧ y.output = w.output := by
  obtain ⟨y, r, m, o, rest⟩ := hf.put Try.under77 a b hk (.agg #[S' (a, b) false, S' (a, b) true])
  refine ⟨y, r, ⟨⟨_, m, fun k => ?_⟩, ⟨fun k d => ?_, hr.ap⟩⟩, o, rest⟩
  · unfold putF
    by_cases e : k = (a, b)
    · rw [if_pos e, e]; rfl
    · rw [if_neg e, h1, hs k false e, hs k true e]
  · have ho := hr.own k d
    refine ⟨ho.1, ?_⟩
    rcases ho.2 with hn | ⟨g', cap', cur, hv', hb', hh, rr⟩
    · exact .inl hn
    · exact .inr ⟨g', cap', cur, hv', hb', (o g' (hf.apart hh)).trans hh, rr⟩
/-- Nothing below N has turned but the map. -/
structure Ch (N mb : Nat) (w w' : World) : Prop where
  os : w'.os = w.os
  tape : w'.tape = w.tape
  output : w'.output = w.output
  size : w.heap.size ≤ w'.heap.size
  block : ∀ j, j < N → j ≠ mb → w'.heap[j]? = w.heap[j]?
theorem Ch.refl (N mb : Nat) (w : World) : Ch N mb w w := ⟨rfl, rfl, rfl, Nat.le_refl _, fun _ _ _ => rfl⟩
theorem Ch.below {N mb : Nat} {w w' z : World} (h : Ch N mb w w') (hb : Below N w' z) : Ch N mb w z := ⟨hb.os.trans h.os, hb.tape.trans h.tape, hb.output.trans h.output, Nat.le_trans h.size hb.size, fun j hj hm => (hb.block j hj).trans (h.block j hj hm)⟩
theorem Ch.put {N mb : Nat} {w w' z : World} (h : Ch N mb w w') (h1 : ∀ j, j ≠ mb → z.heap[j]? = w'.heap[j]?) (h2 : z.heap.size = w'.heap.size) (h3 : z.os = w'.os) (h4 : z.tape = w'.tape) (h5 : z.output = w'.output) : Ch N mb w z :=
  ⟨h3.trans h.os, h4.trans h.tape, h5.trans h.output, by rw [h2]; exact h.size, fun j hj hm => (h1 j hm).trans (h.block j hj hm)⟩
/-- A place put behind those that want its keys. -/
def add1 (V : Ky → Bool → List Int) (i : Int) (x : Lk) : Ky → Bool → List Int := fun k d => if k = x.1 ∧ (d = true → x.2 = true) then V k d ++ [i] else V k d
def addL (V : Ky → Bool → List Int) (i : Int) (l : List Lk) : Ky → Bool → List Int := l.foldl (fun V x => add1 V i x) V
theorem addL_snoc (V : Ky → Bool → List Int) (i : Int) (l : List Lk) (x : Lk) : addL V i (l ++ [x]) = add1 (addL V i l) i x := by simp [addL]
end Go.Proofs.Ytibjhjkeflbghaa
