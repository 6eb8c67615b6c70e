/- All queues, pure: one more place at an end, and one less. -/
import Derived.Test.YteenbebpdibbcaaP1
namespace Go.Proofs.Yteenbebpdibbcaa
open Go.RowKit
set_option maxRecDepth 100000

/-- The queues of a store; those of k0 with flags of their own. -/
structure QJ (S : Sto) (qs : Ky → List Qe) (k0 : Ky) (fl : List Bool) : Prop where
  ch : ∀ k, k ≠ k0 → Chn k S.cs none (qs k) (hs none ((qs k).map Qe.e)) none
  ch0 : Chn k0 S.cs none (qs k0) fl none
  qq : ∀ k, (qs k = [] ∧ S.Q k = none) ∨ (qs k ≠ [] ∧ ∃ q, S.Q k = some q ∧ S.ln q = some ⟨nxt (qs k) none, lst none (qs k)⟩)
  inj : ∀ k k' q, S.Q k = some q → S.Q k' = some q → k = k'
  nd : ∀ k, ((qs k).map Qe.p).Nodup
def QI (S : Sto) (qs : Ky → List Qe) : Prop := ∀ k0, QJ S qs k0 (hs none ((qs k0).map Qe.e))
theorem QI.chn {S : Sto} {qs : Ky → List Qe} (h : QI S qs) (k : Ky) : Chn k S.cs none (qs k) (hs none ((qs k).map Qe.e)) none := (h k).ch0
theorem QJ.qi {S : Sto} {qs : Ky → List Qe} {k0 : Ky} (h : QJ S qs k0 (hs none ((qs k0).map Qe.e))) : QI S qs := fun k => ⟨fun k' _ => if e : k' = k0 then e ▸ h.ch0 else h.ch k' e, if e : k = k0 then e ▸ h.ch0 else h.ch k e, h.qq, h.inj, h.nd⟩
/-- What QJ looks at. -/
theorem QJ.of {S S' : Sto} {qs : Ky → List Qe} {k0 : Ky} {fl : List Bool} (h : QJ S qs k0 fl) (h1 : S'.cs = S.cs) (h2 : S'.ln = S.ln) (h3 : S'.Q = S.Q) : QJ S' qs k0 fl :=
  ⟨fun k e => h1 ▸ h.ch k e, h1 ▸ h.ch0, fun k => by rw [h2, h3]; exact h.qq k, fun k k' q => by rw [h3]; exact h.inj k k' q, h.nd⟩
theorem QI.of {S S' : Sto} {qs : Ky → List Qe} (h : QI S qs) (h1 : S'.cs = S.cs) (h2 : S'.ln = S.ln) (h3 : S'.Q = S.Q) : QI S' qs := fun k => (h k).of h1 h2 h3
theorem Chn.pr {k : Ky} {cs : Nat → Option Cl} : ∀ {xs : List Qe} {ah en : Option Nat} {pr : Option (Bool × Bool)}, Chn k cs ah xs (hs pr (xs.map Qe.e)) en → PrOk cs ah pr → PrOk cs (lst ah xs) (lpr pr (xs.map Qe.e))
  | [], _, _, _, _, hp => hp
  | x :: r, _, _, pr, hc, _ => Chn.pr (xs := r) (ah := some x.p) (pr := some (x.e, mayP pr x.e)) hc.2 (.inr ⟨x.p, _, rfl, hc.1, rfl⟩)
theorem qe_key {S : Sto} {k k' : Ky} {l l' : List Qe} {f f' : List Bool} (h : Chn k S.cs none l f none) (h' : Chn k' S.cs none l' f' none) {x x' : Qe} (hx : x ∈ l) (hx' : x' ∈ l') (e : x.p = x'.p) : k = k' := by
  obtain ⟨_, _, _, h1⟩ := h.mem x hx
  obtain ⟨_, _, _, h2⟩ := h'.mem x' hx'
  rw [e, h2] at h1
  injection h1 with h1
  injection h1 with _ h1
  exact h1.symm
/-- give, from a place of one queue on. -/
theorem giv_qj {S : Sto} {qs : Ky → List Qe} {k0 : Ky} {xs ys : List Qe} {fy : List Bool} (h : QJ S qs k0 (hs none (xs.map Qe.e) ++ fy)) (hq : qs k0 = xs ++ ys) (ho : OldOk (lpr none (xs.map Qe.e)) ys fy) : QI (giv S (ys.map Qe.p)).1 qs := by
  have hc := h.ch0
  rw [hq, Chn.append (by rw [hs_len, List.length_map])] at hc
  obtain ⟨c1, c2⟩ := hc
  have hn := h.nd k0
  rw [hq, List.map_append, List.nodup_append] at hn
  obtain ⟨g1, g2⟩ := giv_chn ys fy S _ _ none c2 (c1.pr (.inl ⟨rfl, rfl⟩)) ho hn.2.1
  obtain ⟨_, s2, s3, _⟩ := giv_same (ys.map Qe.p) S
  refine QJ.qi (k0 := k0) ⟨fun k e => (h.ch k e).keep fun x hx => g2 _ fun c => ?_, ?_, fun k => by rw [s2, s3]; exact h.qq k, fun k k' q => by rw [s3]; exact h.inj k k' q, h.nd⟩
  · obtain ⟨y, hy, e'⟩ := List.mem_map.1 c
    exact e (qe_key (h.ch k e) h.ch0 hx (hq ▸ List.mem_append_right _ hy) e'.symm)
  · rw [hq, List.map_append, hs_append, Chn.append (by rw [hs_len, List.length_map])]
    exact ⟨c1.keep fun x hx => g2 _ fun c => hn.2.2 _ (List.mem_map.2 ⟨x, hx, rfl⟩) _ c rfl, g1⟩
theorem lst_mem : ∀ {l : List Qe} {ah : Option Nat}, l ≠ [] → ∃ x ∈ l, lst ah l = some x.p
  | [], _, h => absurd rfl h
  | [x], _, _ => ⟨x, by simp, rfl⟩
  | x :: y :: r, ah, _ => by
    obtain ⟨z, hz, e⟩ := lst_mem (l := y :: r) (ah := some x.p) (by simp)
    exact ⟨z, by simp at hz ⊢; exact .inr hz, e⟩
/-- Another end behind a chain. -/
theorem Chn.setEnd {k : Ky} {cs cs' : Nat → Option Cl} {en' : Option Nat} : ∀ {xs : List Qe} {f : List Bool} {ah en : Option Nat} {z : Nat}, Chn k cs ah xs f en → xs ≠ [] → lst ah xs = some z → (xs.map Qe.p).Nodup → (∀ y ∈ xs, y.p ≠ z → cs' y.p = cs y.p) → cs' z = (cs z).map (fun c => { c with be := en' }) → Chn k cs' ah xs f en'
  | [], _, _, _, _, _, h, _, _, _, _ => absurd rfl h
  | _ :: _, [], _, _, _, h, _, _, _, _, _ => h.elim
  | [x], [h], ah, en, z, hc, _, hz, _, _, h2 => by
    have e : x.p = z := Option.some.inj hz
    rw [← e, hc.1] at h2
    exact ⟨h2, trivial⟩
  | [x], _ :: _ :: _, _, _, _, hc, _, _, _, _, _ => hc.2.elim
  | x :: y :: r, h :: t, ah, en, z, hc, _, hz, hn, h1, h2 => by
    rw [List.map_cons, List.nodup_cons] at hn
    have hx : x.p ≠ z := fun e => by
      obtain ⟨u, hu, e'⟩ := lst_mem (l := y :: r) (ah := some x.p) (by simp)
      have : some z = some u.p := hz.symm.trans e'
      exact hn.1 (List.mem_map.2 ⟨u, hu, by rw [e]; exact (Option.some.inj this).symm⟩)
    exact ⟨(h1 x (by simp) hx).trans hc.1, Chn.setEnd (xs := y :: r) hc.2 (by simp) hz hn.2 (fun u hu => h1 u (by simp at hu ⊢; exact .inr hu)) h2⟩
/-- Another one ahead of a chain. -/
theorem Chn.setHead {k : Ky} {cs cs' : Nat → Option Cl} {ah ah' en : Option Nat} : ∀ {ys : List Qe} {f : List Bool}, Chn k cs ah ys f en → (ys.map Qe.p).Nodup → (∀ y, nxt ys none = some y → cs' y = (cs y).map fun c => { c with ah := ah' }) → (∀ y ∈ ys, nxt ys none ≠ some y.p → cs' y.p = cs y.p) → Chn k cs' ah' ys f en
  | [], [], _, _, _, _ => trivial
  | [], _ :: _, h, _, _, _ => h.elim
  | _ :: _, [], h, _, _, _ => h.elim
  | y :: r, h :: t, hc, hn, h1, h2 => by
    rw [List.map_cons, List.nodup_cons] at hn
    refine ⟨by rw [h1 y.p rfl, hc.1]; rfl, hc.2.keep fun z hz => h2 z (by simp [hz]) fun e => hn.1 (List.mem_map.2 ⟨z, hz, (Option.some.inj e).symm⟩)⟩
def addQ (qs : Ky → List Qe) (k0 : Ky) (x : Qe) : Ky → List Qe := fun k => if k = k0 then qs k0 ++ [x] else qs k
def setQ (qs : Ky → List Qe) (k0 : Ky) (l : List Qe) : Ky → List Qe := fun k => if k = k0 then l else qs k
theorem lst_snoc : ∀ (l : List Qe) (ah : Option Nat) (x : Qe), lst ah (l ++ [x]) = some x.p
  | [], _, _ => rfl
  | _ :: r, _, x => lst_snoc r _ x
theorem fresh_not {k : Ky} {cs : Nat → Option Cl} {l : List Qe} {f : List Bool} {ah en : Option Nat} (h : Chn k cs ah l f en) {p : Nat} (hp : cs p = none) : p ∉ l.map Qe.p := fun c => by
  obtain ⟨x, hx, e⟩ := List.mem_map.1 c
  obtain ⟨_, _, _, h1⟩ := h.mem x hx
  rw [e, hp] at h1
  cases h1
theorem nd_snoc {l : List Qe} {x : Qe} (h : (l.map Qe.p).Nodup) (hx : x.p ∉ l.map Qe.p) : ((l ++ [x]).map Qe.p).Nodup := by
  rw [List.map_append, List.nodup_append]
  exact ⟨h, by simp, fun a ha b hb e => hx (by simp at hb; rw [← hb, ← e]; exact ha)⟩
/-- One more in a queue of its own. -/
theorem join_new {S : Sto} {qs : Ky → List Qe} (h : QI S qs) {k0 : Ky} (h0 : qs k0 = []) {q p a : Nat} {e h0' : Bool} (hq : S.ln q = none) (hp : S.cs p = none) :
    QJ { S with cs := up S.cs p ⟨a, k0, e, h0', none, none⟩, ln := up S.ln q ⟨some p, some p⟩, Q := fun x => if x = k0 then some q else S.Q x } (addQ qs k0 ⟨p, a, e⟩) k0 (hs none ((qs k0).map Qe.e) ++ [h0']) := by
  have hqn : ∀ k q', S.Q k = some q' → q' ≠ q := fun k q' e1 e2 => by
    rcases (h k0).qq k with ⟨_, c⟩ | ⟨_, q2, c1, c2⟩
    · rw [e1] at c; cases c
    · rw [e1] at c1
      injection c1 with c1
      rw [← c1, e2, hq] at c2
      cases c2
  have hfar : ∀ k, Chn k (up S.cs p ⟨a, k0, e, h0', none, none⟩) none (qs k) (hs none ((qs k).map Qe.e)) none := fun k => (h.chn k).keep fun x hx => up_other _ _ fun c => fresh_not (h.chn k) hp (List.mem_map.2 ⟨x, hx, c⟩)
  refine ⟨fun k hk => ?_, ?_, fun k => ?_, fun k k' q' e1 e2 => ?_, fun k => ?_⟩
  · unfold addQ; rw [if_neg hk]; exact hfar k
  · unfold addQ; rw [if_pos rfl, h0]
    exact ⟨up_same _ _ _, trivial⟩
  · unfold addQ
    by_cases hk : k = k0
    · rw [if_pos hk, h0]
      exact .inr ⟨by simp, q, by show (if k = k0 then some q else _) = _; rw [if_pos hk], up_same _ _ _⟩
    · rw [if_neg hk]
      rcases (h k0).qq k with ⟨c1, c2⟩ | ⟨c1, q2, c2, c3⟩
      · exact .inl ⟨c1, by show (if k = k0 then some q else _) = _; rw [if_neg hk]; exact c2⟩
      · exact .inr ⟨c1, q2, by show (if k = k0 then some q else _) = _; rw [if_neg hk]; exact c2, (up_other _ _ (hqn k q2 c2)).trans c3⟩
  · replace e1 : (if k = k0 then some q else S.Q k) = some q' := e1
    replace e2 : (if k' = k0 then some q else S.Q k') = some q' := e2
    by_cases hk : k = k0 <;> by_cases hk' : k' = k0
    · rw [hk, hk']
    · rw [if_pos hk] at e1; rw [if_neg hk'] at e2
      exact absurd (Option.some.inj e1).symm (hqn _ _ e2)
    · rw [if_neg hk] at e1; rw [if_pos hk'] at e2
      exact absurd (Option.some.inj e2).symm (hqn _ _ e1)
    · rw [if_neg hk] at e1; rw [if_neg hk'] at e2
      exact (h k0).inj _ _ _ e1 e2
  · unfold addQ
    by_cases hk : k = k0
    · rw [if_pos hk]; exact nd_snoc ((h k0).nd k0) (fresh_not (h.chn k0) hp)
    · rw [if_neg hk]; exact (h k0).nd k
/-- One more at a queue's end. -/
theorem join_app {S : Sto} {qs : Ky → List Qe} (h : QI S qs) {k0 : Ky} {f : Option Nat} {q p a l : Nat} {e h0' : Bool} {cl : Cl} (hQ : S.Q k0 = some q) (hq : S.ln q = some ⟨f, some l⟩) (hl : S.cs l = some cl) (hp : S.cs p = none) :
    QJ { S with cs := up (up S.cs p ⟨a, k0, e, h0', some l, none⟩) l { cl with be := some p }, ln := up S.ln q ⟨f, some p⟩ } (addQ qs k0 ⟨p, a, e⟩) k0 (hs none ((qs k0).map Qe.e) ++ [h0']) := by
  obtain ⟨hne, q', hQ', hq'⟩ : qs k0 ≠ [] ∧ ∃ q, S.Q k0 = some q ∧ S.ln q = some ⟨nxt (qs k0) none, lst none (qs k0)⟩ := by
    rcases (h k0).qq k0 with ⟨_, c⟩ | c
    · rw [hQ] at c; cases c
    · exact c
  rw [hQ] at hQ'
  injection hQ' with hQ'
  subst hQ'
  rw [hq] at hq'
  simp only [Option.some.injEq, Ln.mk.injEq] at hq'
  obtain ⟨hf, hlst⟩ := hq'
  have hlp : l ≠ p := fun c => by rw [c, hp] at hl; cases hl
  have hll : l ∈ (qs k0).map Qe.p := by
    obtain ⟨x, hx, ex⟩ := lst_mem (l := qs k0) (ah := none) hne
    rw [← hlst] at ex
    exact List.mem_map.2 ⟨x, hx, (Option.some.inj ex).symm⟩
  have hoth : ∀ y, y ≠ l → y ≠ p → (up (up S.cs p ⟨a, k0, e, h0', some l, none⟩) l { cl with be := some p }) y = S.cs y := fun y h1 h2 => (up_other _ _ h1).trans (up_other _ _ h2)
  refine ⟨fun k hk => ?_, ?_, fun k => ?_, (h k0).inj, fun k => ?_⟩
  · unfold addQ; rw [if_neg hk]
    refine (h.chn k).keep fun x hx => hoth _ (fun c => hk ?_) (fun c => fresh_not (h.chn k) hp (List.mem_map.2 ⟨x, hx, c⟩))
    obtain ⟨y, hy, ey⟩ := List.mem_map.1 hll
    exact qe_key (h.chn k) (h.chn k0) hx hy (c.trans ey.symm)
  · unfold addQ; rw [if_pos rfl, Chn.append (by rw [hs_len, List.length_map])]
    refine ⟨(h.chn k0).setEnd hne hlst.symm ((h k0).nd k0) (fun y hy hyl => hoth _ hyl fun c => fresh_not (h.chn k0) hp (List.mem_map.2 ⟨y, hy, c⟩)) ?_, ?_, trivial⟩
    · show up _ l _ l = _
      rw [up_same, hl]; rfl
    · rw [← hlst]
      exact (up_other _ _ (Ne.symm hlp)).trans (up_same _ _ _)
  · unfold addQ
    by_cases hk : k = k0
    · rw [if_pos hk]
      refine .inr ⟨by simp, q, by rw [hk]; exact hQ, ?_⟩
      show up S.ln q _ q = _
      rw [up_same, lst_snoc, nxt_append, hf]
      cases hx : qs k0 with
      | nil => exact absurd hx hne
      | cons x r => rfl
    · rw [if_neg hk]
      rcases (h k0).qq k with ⟨c1, c2⟩ | ⟨c1, q2, c2, c3⟩
      · exact .inl ⟨c1, c2⟩
      · exact .inr ⟨c1, q2, c2, (up_other _ _ (fun c : q2 = q => hk ((h k0).inj _ _ _ (c ▸ c2) hQ))).trans c3⟩
  · unfold addQ
    by_cases hk : k = k0
    · rw [if_pos hk]; exact nd_snoc ((h k0).nd k0) (fresh_not (h.chn k0) hp)
    · rw [if_neg hk]; exact (h k0).nd k
/-- One who has joined, and was given what it may have. -/
theorem join_giv {S : Sto} {qs : Ky → List Qe} {k0 : Ky} {x : Qe} (h : QJ S (addQ qs k0 x) k0 (hs none ((qs k0).map Qe.e) ++ [false])) : QI (giv S [x.p]).1 (addQ qs k0 x) :=
  giv_qj (xs := qs k0) (ys := [x]) h (by unfold addQ; rw [if_pos rfl]) (oldOk_off _ [x])
end Go.Proofs.Yteenbebpdibbcaa
