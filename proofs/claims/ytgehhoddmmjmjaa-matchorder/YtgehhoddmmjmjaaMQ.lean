/- MatchOrder: the walk itself. -/
import Derived.Test.YtgehhoddmmjmjaaMO
namespace Go.Proofs.Ytgehhoddmmjmjaa
open Go.RowKit
set_option maxRecDepth 100000

theorem Try.info34 : (Try.prog.info? 34).map (fun i => (i.zero, i.size, i.bytes)) = some (some (.agg #[.int .i64 0, .int .i64 0, .int .i64 0]), 3, 24) := by kernel_rfl

/-- The cells of a script. -/
def opCells (os : Nat → OpV) : Nat → List Value
  | 0 => []
  | m + 1 => opCells os m ++ (os m).cells
theorem opCells_len (os : Nat → OpV) (m : Nat) : (opCells os m).length = m * 3 := by
  induction m with
  | zero => rfl
  | succ m ih => rw [opCells, List.length_append, ih]; simp [OpV.cells]; omega
theorem opCells_at (os : Nat → OpV) (m t k : Nat) (ht : t < m) (hk : k < 3) : (opCells os m)[t * 3 + k]? = (os t).cells[k]? := by
  induction m with
  | zero => omega
  | succ m ih =>
    rw [opCells]
    by_cases c : t < m
    · rw [List.getElem?_append_left (by rw [opCells_len]; omega), ih c]
    · obtain rfl : t = m := by omega
      rw [List.getElem?_append_right (by rw [opCells_len]; omega), opCells_len]
      congr 1; omega
theorem opCells_one (os : Nat → OpV) (m : Nat) : ∀ u ∈ opCells os m, u.oneCell' = true := by
  induction m with
  | zero => intro u hu; cases hu
  | succ m ih =>
    intro u hu
    rw [opCells, List.mem_append] at hu
    rcases hu with hu | hu
    · exact ih u hu
    · simp only [OpV.cells, List.mem_cons, List.not_mem_nil, or_false] at hu
      rcases hu with rfl | rfl | rfl <;> rfl

/-- The slice v is a script of its own, in a block at or beyond N. -/
def OwnOps (N : Nat) (x : World) (v : Value) (m : Nat) (f : Nat → OpV) : Prop :=
  ∃ ao cap g, v = .slice ao m cap ∧ m ≤ cap ∧ (0 < m → ao = some ⟨g, 0, none⟩ ∧ N ≤ g ∧ (∀ t, t < m → ∀ k, k < 3 → x.cell? ⟨g, t * 3 + k, none⟩ = (f t).cells[k]?) ∧ ∀ k, x.frozen? ⟨g, k, none⟩ = false)

theorem ownOps_of {w : World} {N : Nat} {v : Value} {m : Nat} {os : Nat → OpV} (h : w.ownsRow N 34 3 v m (opCells os m)) : OwnOps N w v m os := by
  have h' := h
  rcases h.2 with ⟨rfl, rfl⟩ | ⟨g, cap, cur, rfl, hb, hg, hnc, hcm, hcs, htake⟩
  · exact ⟨none, 0, 0, rfl, Nat.le_refl _, fun h => by omega⟩
  · refine ⟨_, cap, g, rfl, hnc, fun _ => ⟨rfl, hb, fun t ht k hk => ?_, fun k => by unfold World.frozen?; rw [hg]; simp⟩⟩
    have hu : ∃ u, (os t).cells[k]? = some u := ⟨_, List.getElem?_eq_getElem (by simpa [OpV.cells] using hk)⟩
    obtain ⟨u, hu⟩ := hu
    have := h'.cells (g := g) rfl (t * 3 + k) u (by rw [opCells_at os m t k ht hk, hu])
    have hadd : (⟨g, 0, none⟩ : Addr).add (t * 3 + k) = ⟨g, t * 3 + k, none⟩ := by unfold Addr.add; split <;> simp_all
    rw [hu]
    first | exact this | (rw [hadd] at this; exact this)

/-- append(nil, script...). -/
theorem wpList_append_ops {w : World} {ops : Array Oper} {rest : List Oper} {o : Oper} {a : Act} {Q : Exit → Act → World → Prop} (hgd : o.guard = none) (s x : Operand)
    (ho : o.op = .call { callee := .builtin .append, args := #[s, x], argTypes := #[24, 24] }) (hs : a.eval s = .slice none 0 0)
    (sv : Value) (m : Nat) (os : Nat → OpV) (hx : a.eval x = sv) (hsee : SeesOps w sv m os) (hnil : ∀ c, sv = .slice none m c → c = 0) (hm : m ≤ 5864062014634)
    (h : ∀ v' w', OwnOps w.heap.size w' v' m os → Below w.heap.size w w' → wpList Try.prog ops Q rest (a.put o.dst v') w') : wpList Try.prog ops Q (o :: rest) a w := by
  obtain ⟨i34, hi, hz0, hz1, hz2⟩ := info_parts Try.info34
  obtain ⟨ao, cap, gb, ob, rfl, hcap, _, hao, hc⟩ := hsee
  have hn := World.ownsRow_nil w w.heap.size 34 3
  by_cases h0 : 0 < m
  · obtain rfl := hao h0
    refine wpList_append_own w hgd s x 24 ho w.heap.size 34 i34 _ 3 24 Try.underlying24 hi hz0 hz1 hz2 rfl (by decide) _ 0 [] hs hn ⟨gb, ob, none⟩ m cap (opCells os m) hx (opCells_len os m) (fun j u hu => ?_) (opCells_one os m) (by unfold maxLen; omega) (by omega) (Nat.le_refl _) ?_
    · have hj : j < m * 3 := by rw [← opCells_len os m]; exact (List.getElem?_eq_some_iff.1 hu).1
      have hadd : ∀ q, (⟨gb, ob, none⟩ : Addr).add q = ⟨gb, ob + q, none⟩ := fun q => by unfold Addr.add; split <;> simp_all
      have e : j = j / 3 * 3 + j % 3 := by omega
      rw [e] at hu ⊢
      rw [opCells_at os m (j / 3) (j % 3) (by omega) (by omega)] at hu
      rw [hadd, ← Nat.add_assoc, ← hu]
      exact hc (j / 3) (by omega) (j % 3) (by omega)
    · intro v' w' hown hg _
      rw [Nat.zero_add, List.nil_append] at hown
      exact h v' w' (ownOps_of hown) ((Below.refl _ _).grown hg (Nat.le_refl _) (fun k e => by simp [Value.ownBlock] at e))
  · obtain rfl : m = 0 := by omega
    cases ao with
    | none =>
      obtain rfl := hnil cap rfl
      refine wpList_append_own_none hgd s x 24 ho w.heap.size 34 i34 3 Try.underlying24 hi _ 0 [] hs hn hx ?_
      exact h _ w ⟨none, 0, 0, rfl, Nat.le_refl _, fun h => by omega⟩ (Below.refl _ _)
    | some ad =>
      refine wpList_append_own w hgd s x 24 ho w.heap.size 34 i34 _ 3 24 Try.underlying24 hi hz0 hz1 hz2 rfl (by decide) _ 0 [] hs hn ad 0 cap [] hx rfl (fun j u hu => by simp at hu) (fun u hu => by cases hu) (by unfold maxLen; omega) (by omega) (Nat.le_refl _) ?_
      intro v' w' hown hg _
      exact h v' w' (ownOps_of (os := os) (m := 0) hown) ((Below.refl _ _).grown hg (Nat.le_refl _) (fun k e => by simp [Value.ownBlock] at e))

set_option maxHeartbeats 800000 in
theorem order_arg (n s l : Int) (sv tv : Value) (w : World) (h : okNew n s l = false) :
    Calls Try.prog 6 #[.agg #[.int .i64 n, .int .i64 s], .int .i64 l, sv, tv] w fun e w' => e = .returned (.bool true) ∧ Below w.heap.size w w' := by
  obtain ⟨B, hB⟩ : ∃ B, bx w n s = B := ⟨_, rfl⟩
  have HBX : Hid (∀ x, Below (w.heap.size + 1) B x → x.cell? ⟨w.heap.size, 0, none⟩ = some (.int .i64 n) ∧ x.cell? ⟨w.heap.size, 1, none⟩ = some (.int .i64 s)) := fun x hx => box2b (by rw [← hB] at hx; exact hx)
  obtain ⟨q0, q1⟩ := unhide HBX B (Below.refl _ _)
  have HB0 : Hid (Below w.heap.size w B) := by rw [← hB]; exact bx_below w n s
  have HSZ : Hid (B.heap.size = w.heap.size + 1) := by show _ = _; rw [← hB]; exact bx_size w n s
  go_enter Try.func6, Try.ntmps6
  go_wp2_with (rw [hB])
  refine (new_arg B n s l h).mono ?_
  rintro e w1 ⟨rfl, hb1⟩
  have HB1 := hide ((unhide HB0).trans (hb1.mono (unhide HB0).size))
  clear q0 q1
  obtain ⟨q0, q1⟩ := unhide HBX w1 (by rw [← unhide HSZ]; exact hb1)
  clear hb1
  go_wp2_with fail
  refine (new_arg w1 n s l h).mono ?_
  rintro e w2 ⟨rfl, hb2⟩
  have HB2 := hide ((unhide HB1).trans (hb2.mono (unhide HB1).size))
  clear hb2 q0 q1
  go_wp2_with fail
  refine (begun_any w2).mono ?_
  rintro e w3 ⟨rfl, hb3⟩
  have HB3 := hide ((unhide HB2).trans (hb3.mono (unhide HB2).size))
  clear hb3
  go_wp2
  go_ret
  exact ⟨rfl, unhide HB3⟩

/-- Where both books stand when t operations were told. -/
structure Two (w : World) (n s m h1 h2 : Nat) (B : Bk) (f g : Nat → OpV) (ov : Value) (t : Nat) (x : World) : Prop where
  i1 : IsB x h1 (tellTo B f t)
  i2 : IsB x h2 (tellTo B g t)
  ow : OwnOps (w.heap.size + 1) x ov m g
  lo : Below (w.heap.size + 1) (bx w n s) x
  a1 : w.heap.size + 1 ≤ h1
  a2 : w.heap.size + 1 ≤ h2
  ne : h1 ≠ h2
  n1 : ∀ c k, ov = .slice (some ⟨k, 0, none⟩) m c → 0 < m → k ≠ h1 ∧ k ≠ h2
theorem OwnOps.upd {N : Nat} {x y : World} {v : Value} {m : Nat} {f : Nat → OpV} {P : Nat → Prop} (h : OwnOps N x v m f) (hu : Upd P x.heap.size x y) (hn : ∀ c k, v = .slice (some ⟨k, 0, none⟩) m c → 0 < m → ¬ P k) : OwnOps N y v m f := by
  obtain ⟨ao, cap, g, rfl, hc, hk⟩ := h
  refine ⟨ao, cap, g, rfl, hc, fun h0 => ?_⟩
  obtain ⟨rfl, hN, h1, h2⟩ := hk h0
  have hg : g < x.heap.size := World.block_lt_of_cell? x ⟨g, 0 * 3 + 0, none⟩ (u := .int .i64 (f 0).act) (h1 0 h0 0 (by decide))
  have hp := hn cap g rfl h0
  refine ⟨rfl, hN, fun t ht k hk => by rw [hu.cell (p := ⟨g, t * 3 + k, none⟩) hg hp]; exact h1 t ht k hk, fun k => by rw [hu.frozen (p := ⟨g, k, none⟩) hg hp]; exact h2 k⟩

theorem Two.below {w : World} {n s m h1 h2 : Nat} {B : Bk} {f g : Nat → OpV} {ov : Value} {t : Nat} {x y : World} (T : Two w n s m h1 h2 B f g ov t x) (hb : Below x.heap.size x y) : Two w n s m h1 h2 B f g ov t y :=
  ⟨T.i1.below hb, T.i2.below hb, T.ow.upd (P := fun _ => False) (Upd.of hb) (fun _ _ _ _ c => c), T.lo.trans (hb.mono (by have := T.lo.size; simp at this; omega)), T.a1, T.a2, T.ne, T.n1⟩

end Go.Proofs.Ytgehhoddmmjmjaa
