/- A run goes by the values of its reads, and writes keys of its writes alone (pure); slices.Clone of pairs. -/
import Derived.Test.YtldapckooohigaaDoorJO
import Derived.Test.YtldapckooohigaaDoorE35
import Derived.Lib.SliceRun
namespace Go.Proofs.YtldapckooohigaaDoor
open Go.RowKit
set_option maxRecDepth 100000

/-- Of some pairs those whose keys are not read. -/
def othP (rs : List Ky) (m : List Pr) : List Pr := m.filter fun p => decide (p.1 ∉ rs)
theorem othP_snoc (rs : List Ky) (m : List Pr) (p : Pr) : othP rs (m ++ [p]) = if p.1 ∈ rs then othP rs m else othP rs m ++ [p] := by
  unfold othP
  rw [List.filter_append]
  by_cases h : p.1 ∈ rs <;> simp [h]
theorem othP_len (rs : List Ky) (m : List Pr) : (othP rs m).length ≤ m.length := List.length_filter_le _ _
theorem nedP_oth (rs : List Ky) (m o : List Pr) : nedP rs (m ++ othP rs o) = nedP rs m := by
  unfold nedP othP
  rw [List.filter_append, List.filter_filter]
  have : (o.filter fun p => decide (p.1 ∈ rs) && decide (p.1 ∉ rs)) = [] := List.filter_eq_nil_iff.2 fun p _ h => by
    simp at h
  rw [this, List.append_nil]
theorem nedP_ned (rs : List Ky) (m : List Pr) : nedP rs (nedP rs m) = nedP rs m := by
  unfold nedP
  rw [List.filter_filter]
  congr 1
  funext p
  simp
theorem ris_nodup {l : List Pr} (h : RisesP l) : (keysOf l).Nodup := by
  unfold keysOf
  refine List.pairwise_map.2 (h.imp fun {a b} hab e => ?_)
  rw [e] at hab
  exact ltK_irrefl _ hab
theorem srtP_srt (l : List Pr) : srtP (srtP l) = srtP l :=
  (srtP_of (srtP_spec l).1 fun k u => (valOf_mem (ris_nodup (srtP_spec l).1) k u).symm).symm
theorem runP_oth (x : Tx) (m o : List Pr) (fu : Int) : runP x (m ++ othP x.rs o) fu = runP x m fu := by
  unfold runP tpP
  rw [nedP_oth]
theorem runP_ned (x : Tx) (m : List Pr) (fu : Int) : runP x (srtP (nedP x.rs m)) fu = runP x m fu := by
  unfold runP tpP
  rw [ned_srt, nedP_ned, srtP_srt]
theorem runP_code (x : Tx) (m : List Pr) (fu : Int) (h : chkP x ≠ 0) : (runP x m fu).en = 1 := by
  unfold runP
  rw [if_pos h]

theorem valC_in (k : Ky) (u : Int × Bool) : ∀ (l : List Ch) (a : Option (Int × Bool)), l.foldl (stpC k) a = some u → a = some u ∨ (k, u) ∈ l
  | [], _, h => .inl h
  | p :: r, a, h => by
    rw [List.foldl_cons] at h
    rcases valC_in k u r _ h with h1 | h1
    · unfold stpC at h1
      by_cases e : p.1 = k
      · rw [if_pos e] at h1
        have : p = (k, u) := Prod.ext e (Option.some.inj h1)
        exact .inr (by rw [this]; exact List.mem_cons_self)
      · rw [if_neg e] at h1
        exact .inl h1
    · exact .inr (List.mem_cons_of_mem _ h1)
def Wrt (P : Tp) (s : Mc) : Prop := ∀ c ∈ s.wr, c.1 ∈ P.ws
theorem wrt_add {P : Tp} {s : Mc} (h : Wrt P s) {c : Ch} (hc : c.1 ∈ P.ws) : Wrt P (wrP s c) := fun d hd => by
  rcases List.mem_append.1 hd with h1 | h1
  · exact h d h1
  · rw [List.mem_singleton.1 h1]; exact hc
theorem doP_wrt {P : Tp} {x : Ins} {s : Mc} (hw : x.op = 5 ∨ x.op = 6 → 0 ≤ x.im ∧ x.im < P.ws.length) (h : Wrt P s) : Wrt P (doP P x s).1 := by
  have hat : x.op = 5 ∨ x.op = 6 → P.ws.getD x.im.toNat (0, 0) ∈ P.ws := fun e => by
    obtain ⟨h0, h1⟩ := hw e
    have hl : x.im.toNat < P.ws.length := by omega
    simp only [List.getD, List.getElem?_eq_getElem hl, Option.getD_some]
    exact List.getElem_mem hl
  unfold doP
  refine iteQ (fun r : Mc × Int => Wrt P r.1) (fun _ => h) fun _ => ?_
  refine iteQ (fun r : Mc × Int => Wrt P r.1) (fun _ => h) fun _ => ?_
  refine iteQ (fun r : Mc × Int => Wrt P r.1) (fun _ => h) fun _ => ?_
  refine iteQ (fun r : Mc × Int => Wrt P r.1) (fun _ => h) fun _ => ?_
  refine iteQ (fun r : Mc × Int => Wrt P r.1) (fun _ => h) fun _ => ?_
  refine iteQ (fun r : Mc × Int => Wrt P r.1) (fun _ => h) fun _ => ?_
  refine iteQ (fun r : Mc × Int => Wrt P r.1) (fun e => wrt_add h (hat (.inl e))) fun _ => ?_
  refine iteQ (fun r : Mc × Int => Wrt P r.1) (fun e => wrt_add h (hat (.inr e))) fun _ => ?_
  refine iteQ (fun r : Mc × Int => Wrt P r.1) (fun _ => h) fun _ => ?_
  refine iteQ (fun r : Mc × Int => Wrt P r.1) (fun _ => h) fun _ => ?_
  refine iteQ (fun r : Mc × Int => Wrt P r.1) (fun _ => iteQ (fun r : Mc => Wrt P r) (fun _ => h) (fun _ => h)) fun _ => ?_
  refine iteQ (fun r : Mc × Int => Wrt P r.1) (fun _ => iteQ (fun r : Mc × Int => Wrt P r.1) (fun _ => h) (fun _ => h)) fun _ => ?_
  refine iteQ (fun r : Mc × Int => Wrt P r.1) (fun _ => h) fun _ => ?_
  refine iteQ (fun r : Mc × Int => Wrt P r.1) (fun _ => iteQ (fun r : Mc × Int => Wrt P r.1) (fun _ => h) (fun _ => h)) fun _ => ?_
  exact iteQ (fun r : Mc × Int => Wrt P r.1) (fun _ => iteQ (fun r : Mc × Int => Wrt P r.1) (fun e => wrt_add h e) (fun _ => h)) fun _ => h
theorem goP_wrt {P : Tp} (hP : ∀ x ∈ P.L, x.op = 5 ∨ x.op = 6 → 0 ≤ x.im ∧ x.im < P.ws.length) : ∀ (n : Nat) (s : Mc), Wrt P s → Wrt P (goP P n s).1
  | 0, s, h => by unfold goP; split <;> exact h
  | n + 1, s, h => by
    rcases hx : P.L[s.pc]? with _ | x
    · rw [goP_end (by have := List.getElem?_eq_none_iff.1 hx; omega)]
      exact h
    · have h1 : Wrt P (doP P x (onP s)).1 := doP_wrt (hP x (List.mem_of_getElem? hx)) h
      by_cases h0 : (doP P x (onP s)).2 = 0
      · rw [goP_step hx h0]
        exact goP_wrt hP n _ h1
      · rw [goP_stop hx h0]
        exact h1
theorem runP_keys (x : Tx) (hby : Byt x.code) (m : List Pr) (fu : Int) : RisesC (runP x m fu).cs ∧ ∀ c ∈ (runP x m fu).cs, c.1 ∈ x.ws := by
  unfold runP
  split
  · exact ⟨List.Pairwise.nil, fun c h => by cases h⟩
  · rename_i h0
    have h0 := Classical.not_not.1 h0
    unfold outP
    split
    · exact ⟨List.Pairwise.nil, fun c h => by cases h⟩
    · refine ⟨(srtD_spec _).1, fun c hc => ?_⟩
      have hv := ((srtD_spec _).2.1 c.1 c.2).1 hc
      have hin := (valC_in c.1 c.2 _ none hv).resolve_left (fun e => by cases e)
      obtain ⟨hd, hb⟩ := chk_zero h0
      have hx := okX_of (E := envB 0 0 nilV nilV nilV nilV nilV (plN (tpP x m).L (tpP x m).L.length) 0 0) (P := tpP x m) hby hd rfl rfl hb
      exact goP_wrt (P := tpP x m) (fun y hy => (hx y hy).write) (fuN fu) mc0 (fun c h => by cases h) _ hin

theorem own_lit (w : World) (e k : Nat) : (w.alloc (.cells #[] e)).ownsRow w.heap.size e k (.slice (some ⟨w.heap.size, 0, none⟩) 0 0) 0 [] :=
  ⟨by simp, .inr ⟨w.heap.size, 0, #[], rfl, Nat.le_refl _, heap_alloc_new w _, Nat.le_refl _, by unfold maxLen; omega, by simp, by simp⟩⟩
set_option maxHeartbeats 800000 in
theorem clone_prs {w : World} {v : Value} {l : List Pr} (hs : SeesL pC 3 w v l) (hl : l.length ≤ 5864062014805) :
    Calls Tryd.prog 25 #[v] w fun e w' => ∃ r, e = .returned r ∧ w'.ownsRow w.heap.size 45 3 r l.length (l.flatMap pC) ∧ Below w.heap.size w w' := by
  have hE := fun (w : World) a n c => Lib.run_eql_slice_nil (P := Tryd.prog) w 29 45 a n c 0 0 Tryd.underlying29
  obtain ⟨ao, cap, gb, ob, rfl, h2, h3, h4, h5, h6⟩ := id hs
  cases ao with
  | none =>
    have h0 : l = [] := List.length_eq_zero_iff.1 (by have := h4 rfl; omega)
    subst h0
    obtain rfl := h4 rfl
    simp only [List.length_nil]
    go_enter Tryd.func25, Tryd.ntmps25
    go_wp2
    go_ret
    exact ⟨_, rfl, own_nil _ _ _ _, Below.refl _ _⟩
  | some ad =>
    obtain ⟨v', w1, hr, ho, hg⟩ := append_pairs (n := 0) (l := []) (l2 := l) (base := w.heap.size) 29 (own_lit w 45 3 : (w.alloc (.cells #[] 45)).ownsRow w.heap.size 45 3 (.slice (some ⟨w.heap.size, 0, none⟩) 0 0) 0 (([] : List Pr).flatMap pC)) (hs.below pC_len (below_box _)) (by omega) (by simp)
    have hb : Below w.heap.size w w1 := (below_box _).trans ((Below.refl _ _).grown hg (by simp) (own_block_le (own_lit w 45 3 : (w.alloc (.cells #[] 45)).ownsRow w.heap.size 45 3 (.slice (some ⟨w.heap.size, 0, none⟩) 0 0) 0 [])))
    rw [List.nil_append, Nat.zero_add] at ho
    obtain ⟨n, hn⟩ : ∃ n, l.length = n := ⟨_, rfl⟩
    rw [hn] at ho
    have HF := hide (And.intro ho hb)
    have HR := hide hr
    rw [hn] at HR ⊢
    clear hs h2 h3 h4 h5 h6 hl hr ho hg hb hn
    go_enter Tryd.func25, Tryd.ntmps25
    go_wp2_with (refine wpList_append_wanted (by rfl) _ _ 29 rfl rfl rfl (unhide HR) ?_)
    go_ret
    exact ⟨_, rfl, (unhide HF).1, (unhide HF).2⟩
end Go.Proofs.YtldapckooohigaaDoor
