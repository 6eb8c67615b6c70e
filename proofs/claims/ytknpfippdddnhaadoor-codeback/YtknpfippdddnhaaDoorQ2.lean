/- Marks; instructions that are the same; the iterator of Walk as a sequence. -/
import Derived.Test.YtknpfippdddnhaaDoorQ1
namespace Go.Proofs.YtknpfippdddnhaaDoor
open Go.RowKit Go.Shelf
attribute [local go_sem] Oper.semAt_some
set_option maxRecDepth 100000

/-- The marks that ranges have left behind. -/
structure Marks (ds : List Deferred) (w : World) : Prop where
  all : ∀ d ∈ ds, ∃ D, d = { target := .collected D, args := #[] } ∧ w.heap[D]? = some (.deferred (some []))
  nodup : ds.Nodup
def isMark (ds : List Deferred) (k : Nat) : Prop := { target := .collected k, args := #[] } ∈ ds
theorem Marks.nil (w : World) : Marks [] w := ⟨fun d h => (by cases h), List.nodup_nil⟩
theorem Marks.keep {ds : List Deferred} {w w' : World} (h : Marks ds w) (hk : ∀ k, isMark ds k → w'.heap[k]? = w.heap[k]?) : Marks ds w' :=
  ⟨fun d hd => by obtain ⟨D, rfl, hD⟩ := h.all d hd; exact ⟨D, rfl, (hk D hd).trans hD⟩, h.nodup⟩
theorem Marks.at {ds : List Deferred} {w : World} (h : Marks ds w) {k : Nat} (hk : isMark ds k) : w.heap[k]? = some (.deferred (some [])) := by
  obtain ⟨D, e, hD⟩ := h.all _ hk
  simp only [Deferred.mk.injEq, Target.collected.injEq, and_true] at e
  rw [e]; exact hD
theorem Marks.lt {ds : List Deferred} {w : World} (h : Marks ds w) {k : Nat} (hk : isMark ds k) : k < w.heap.size := (Array.getElem?_eq_some_iff.1 (h.at hk)).1
theorem Marks.cons {ds : List Deferred} {w : World} {D : Nat} (h : Marks ds w) (hD : w.heap[D]? = some (.deferred (some []))) (hn : ¬ isMark ds D) : Marks ({ target := .collected D, args := #[] } :: ds) w :=
  ⟨fun d hd => by rcases List.mem_cons.1 hd with rfl | hd; exact ⟨D, rfl, hD⟩; exact h.all d hd, List.nodup_cons.2 ⟨hn, h.nodup⟩⟩
theorem leave_marks {F : Fence} {n : Nat} {P : Program} {fn : Func} {tmps : Array Value} {R : Ending → World → Prop} {ds : List Deferred} {w : World} (h : Marks ds w)
    (hf : ∀ w', Upd (isMark ds) w.heap.size w w' → LeavesInM F n P fn tmps R [] .returning w') : LeavesInM F n P fn tmps R ds .returning w := by
  induction ds generalizing w with
  | nil => exact hf w (Upd.refl _ _ _)
  | cons d ds ih =>
    obtain ⟨D, rfl, hD⟩ := h.all d List.mem_cons_self
    have hl := (Array.getElem?_eq_some_iff.1 hD).1
    refine ⟨by simp, .inl ⟨D, _, rfl, run_takeDeferred hD, ih ⟨fun e he => ?_, (List.nodup_cons.1 h.nodup).2⟩ fun w' hw => hf w' ?_⟩⟩
    · obtain ⟨D', rfl, hD'⟩ := h.all e (List.mem_cons_of_mem _ he)
      refine ⟨D', rfl, (World.putObj_heap_other ?_).trans hD'⟩
      rintro rfl
      exact (List.nodup_cons.1 h.nodup).1 he
    · refine ⟨hw.os, hw.tape, hw.output, ?_, fun k hk hn => ?_⟩
      · have := hw.size
        simpa [World.putObj] using this
      · refine (hw.block k (by simpa [World.putObj] using hk) fun c => hn (List.mem_cons_of_mem _ c)).trans (World.putObj_heap_other ?_)
        rintro rfl
        exact hn List.mem_cons_self

theorem eq_ins (d : Nat) (x y : Ins) (w : World) : (Op.equalIn (d + 3) 28 (iW x) (iW y)).run Tryd.prog w = .ok (decide (x = y)) w := by
  obtain ⟨x0, x1, x2, x3, x4⟩ := x
  obtain ⟨y0, y1, y2, y3, y4⟩ := y
  have hS : Tryd.prog.underlying 28 = some (.struct (Tryd.prog.fieldsOf 28)) := by kernel_rfl
  have hp : Tryd.prog.stoodInHeld 28 = false := by kernel_rfl
  have h2 := fun (w : World) (x y : Int) => run_equalIn_int (P := Tryd.prog) w (d + 1) 2 .i64 .i64 x y Tryd.underlying2
  have h3 := fun (w : World) (x y : Int) => run_equalIn_int (P := Tryd.prog) w (d + 1) 3 .i64 .i64 x y Tryd.underlying3
  have hp0 : ∀ w (a b c e f : Int), (part 3 #[.int .i64 a, .int .i64 b, .int .i64 c, .int .i64 e, .int .i64 f] 0).run Tryd.prog w = .ok (.int .i64 a) w := fun w a b c e f => by simp [part, go_sem]
  have hp1 : ∀ w (a b c e f : Int), (part 3 #[.int .i64 a, .int .i64 b, .int .i64 c, .int .i64 e, .int .i64 f] 1).run Tryd.prog w = .ok (.int .i64 b) w := fun w a b c e f => by simp [part, go_sem]
  have hp2 : ∀ w (a b c e f : Int), (part 3 #[.int .i64 a, .int .i64 b, .int .i64 c, .int .i64 e, .int .i64 f] 2).run Tryd.prog w = .ok (.int .i64 c) w := fun w a b c e f => by simp [part, go_sem]
  have hp3 : ∀ w (a b c e f : Int), (part 3 #[.int .i64 a, .int .i64 b, .int .i64 c, .int .i64 e, .int .i64 f] 3).run Tryd.prog w = .ok (.int .i64 e) w := fun w a b c e f => by simp [part, go_sem]
  have hp4 : ∀ w (a b c e f : Int), (part 2 #[.int .i64 a, .int .i64 b, .int .i64 c, .int .i64 e, .int .i64 f] 4).run Tryd.prog w = .ok (.int .i64 f) w := fun w a b c e f => by simp [part, go_sem]
  rw [show d + 3 = (d + 2) + 1 from rfl, run_equalIn_struct w (d + 2) 28 _ _ hS hp]
  simp only [Program.fieldsOf, Tryd.underlying28]
  by_cases e0 : x0 = y0 <;> by_cases e1 : x1 = y1 <;> by_cases e2 : x2 = y2 <;> by_cases e3 : x3 = y3 <;> by_cases e4 : x4 = y4 <;> simp [Op.eqFields, hp0, hp1, hp2, hp3, hp4, h2, h3, e0, e1, e2, e3, e4]
theorem neq_ins (x y : Ins) (w : World) : (binOp .neq 28 (iW x) (iW y)).run Tryd.prog w = .ok (.bool (!decide (x = y))) w := by
  rw [run_neq_struct, show (10000 : Nat) = 9997 + 3 from rfl, eq_ins]
  rfl
theorem Tab.keep {w w' : World} (h : Tab w) (e : w'.heap[0]? = w.heap[0]?) : Tab w' := fun i hi => (World.cell?_of_block (w := w) (w' := w') (a := ⟨0, i, none⟩) e).trans (h i hi)
theorem own_keep {w w' : World} {N e k n : Nat} {v : Value} {xs : List Value} (h : w.ownsRow N e k v n xs) (hk : ∀ g, N ≤ g → g < w.heap.size → w'.heap[g]? = w.heap[g]?) : w'.ownsRow N e k v n xs := by
  refine ⟨h.1, ?_⟩
  rcases h.2 with hn | ⟨g, cap, cur, hv, hg, hh, r⟩
  · exact .inl hn
  · exact .inr ⟨g, cap, cur, hv, hg, (hk g hg (Array.getElem?_eq_some_iff.1 hh).1).trans hh, r⟩
def OkW (l : List Int) (pre : List Ins) (x : Ins) : Prop := ∃ r, pre ++ x :: r = wkL l
theorem walk_seq (n : Nat) {N bx : Nat} {W2 : World} {l : List Int} (h : WkAt N W2 bx l) (hT : Tab W2) (hby : Byt l) (hm : l.length ≤ 4611686018427387900) (b : Nat → Prop) (hb : ∀ k, b k → k < W2.heap.size) (b0 : b 0) (hbN : ∀ k, N ≤ k → k < W2.heap.size → b k) :
    SeqOk Fence.wide n Tryd.prog 48 #[.pointer (some ⟨bx, 0, none⟩)] encW (OkW l) (Keepb b) (fun xs => xs = wkL l) W2 := fun lp J Jx W hbel hJ hY hj0 => by
  obtain ⟨hbx, v, hv, ho⟩ := h
  have hlt := (Array.getElem?_eq_some_iff.1 hv).1
  have e : ∀ z, Keepb b W z → ∀ k, b k → z.heap[k]? = W2.heap[k]? := fun z hz k hk => (hz.block k hk).trans (hbel.block k (hb k hk))
  refine walk1_in n lp bx v l hby hm b J Jx (fun s A B hs hb => ownFrom_grew hJ hs hb) hY W (fun z hz => hT.keep (e z hz 0 b0)) (fun z hz => cell_at ((e z hz bx (hbN bx hbx hlt)).trans hv)) (fun z hz => (own_sees yC_len (by decide) (own_keep ho fun g hg hl => e z hz g (hbN g hg hl))).2) (fun k hk => Nat.lt_of_lt_of_le (hb k hk) hbel.size) hj0
end Go.Proofs.YtknpfippdddnhaaDoor
