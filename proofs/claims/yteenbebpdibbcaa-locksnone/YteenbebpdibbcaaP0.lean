/- Queues, pure: who has the lock, chains of places, and what give makes of them. -/
import Derived.Test.YteenbebpdibbcaaS8
namespace Go.Proofs.Yteenbebpdibbcaa
open Go.RowKit
set_option maxRecDepth 100000

def mayP : Option (Bool × Bool) → Bool → Bool
  | none, _ => true
  | some (pe, ph), e => !e && !pe && ph
/-- Who has the lock, place by place, of the one ahead. -/
def hs : Option (Bool × Bool) → List Bool → List Bool
  | _, [] => []
  | pr, e :: r => mayP pr e :: hs (some (e, mayP pr e)) r
theorem hs_off (pe : Bool) : ∀ es : List Bool, hs (some (pe, false)) es = es.map fun _ => false
  | [] => rfl
  | e :: r => by
    have h0 : mayP (some (pe, false)) e = false := by simp [mayP]
    rw [hs, h0, hs_off e r]; rfl
theorem hs_len : ∀ (pr : Option (Bool × Bool)) (es : List Bool), (hs pr es).length = es.length
  | _, [] => rfl
  | pr, e :: r => by rw [hs, List.length_cons, hs_len]; rfl
/-- What stands last: whether it is alone, whether it has the lock. -/
def lpr : Option (Bool × Bool) → List Bool → Option (Bool × Bool)
  | pr, [] => pr
  | pr, e :: r => lpr (some (e, mayP pr e)) r
theorem hs_append : ∀ (pr : Option (Bool × Bool)) (a b : List Bool), hs pr (a ++ b) = hs pr a ++ hs (lpr pr a) b
  | _, [], _ => rfl
  | pr, e :: r, b => by rw [List.cons_append, hs, hs_append, hs, lpr]; rfl
structure Qe where
  p : Nat
  a : Nat
  e : Bool
def nxt : List Qe → Option Nat → Option Nat
  | [], en => en
  | x :: _, _ => some x.p
def lst : Option Nat → List Qe → Option Nat
  | ah, [] => ah
  | _, x :: r => lst (some x.p) r
/-- Places of a queue, one behind the other. -/
def Chn (k : Ky) (cs : Nat → Option Cl) : Option Nat → List Qe → List Bool → Option Nat → Prop
  | _, [], [], _ => True
  | ah, x :: r, h :: t, en => cs x.p = some ⟨x.a, k, x.e, h, ah, nxt r en⟩ ∧ Chn k cs (some x.p) r t en
  | _, _, _, _ => False
theorem Chn.len {k : Ky} {cs : Nat → Option Cl} : ∀ {ah : Option Nat} {l : List Qe} {f : List Bool} {en : Option Nat}, Chn k cs ah l f en → l.length = f.length
  | _, [], [], _, _ => rfl
  | _, _ :: _, _ :: _, _, h => by rw [List.length_cons, List.length_cons, Chn.len h.2]
  | _, [], _ :: _, _, h => h.elim
  | _, _ :: _, [], _, h => h.elim
theorem Chn.keep {k : Ky} {cs cs' : Nat → Option Cl} : ∀ {ah : Option Nat} {l : List Qe} {f : List Bool} {en : Option Nat}, Chn k cs ah l f en → (∀ x ∈ l, cs' x.p = cs x.p) → Chn k cs' ah l f en
  | _, [], [], _, _, _ => trivial
  | _, x :: _, _ :: _, _, h, hk => ⟨(hk x (by simp)).trans h.1, Chn.keep h.2 fun y hy => hk y (by simp [hy])⟩
  | _, [], _ :: _, _, h, _ => h.elim
  | _, _ :: _, [], _, h, _ => h.elim
theorem nxt_append (l m : List Qe) (en : Option Nat) : nxt (l ++ m) en = nxt l (nxt m en) := by cases l <;> rfl
theorem Chn.append {k : Ky} {cs : Nat → Option Cl} : ∀ {ah : Option Nat} {l m : List Qe} {f g : List Bool} {en : Option Nat}, l.length = f.length → (Chn k cs ah (l ++ m) (f ++ g) en ↔ Chn k cs ah l f (nxt m en) ∧ Chn k cs (lst ah l) m g en)
  | _, [], _, [], _, _, _ => ⟨fun h => ⟨trivial, h⟩, fun h => h.2⟩
  | ah, x :: r, m, h :: t, g, en, hl => by
    have := Chn.append (k := k) (cs := cs) (ah := some x.p) (l := r) (m := m) (f := t) (g := g) (en := en) (by simpa using hl)
    show (cs x.p = some ⟨x.a, k, x.e, h, ah, nxt (r ++ m) en⟩ ∧ Chn k cs (some x.p) (r ++ m) (t ++ g) en) ↔ _
    rw [this, nxt_append]
    exact ⟨fun ⟨h1, h2, h3⟩ => ⟨⟨h1, h2⟩, h3⟩, fun ⟨⟨h1, h2⟩, h3⟩ => ⟨h1, h2, h3⟩⟩
  | _, [], _, _ :: _, _, _, hl => by simp at hl
  | _, _ :: _, _, [], _, _, hl => by simp at hl
theorem Chn.mem {k : Ky} {cs : Nat → Option Cl} : ∀ {ah : Option Nat} {l : List Qe} {f : List Bool} {en : Option Nat}, Chn k cs ah l f en → ∀ x ∈ l, ∃ h ah' be, cs x.p = some ⟨x.a, k, x.e, h, ah', be⟩
  | _, y :: r, h :: t, en, hc, x, hx => by
    rcases List.mem_cons.1 hx with rfl | hx
    · exact ⟨_, _, _, hc.1⟩
    · exact Chn.mem hc.2 x hx
  | _, [], _ :: _, _, h, _, _ => h.elim
  | _, _ :: _, [], _, h, _, _ => h.elim
theorem Chn.be {k : Ky} {cs : Nat → Option Cl} : ∀ {ah : Option Nat} {l : List Qe} {f : List Bool}, Chn k cs ah l f none → BeL cs (l.map Qe.p)
  | _, [], [], _ => trivial
  | _, x :: r, h :: t, hc => ⟨⟨_, hc.1, by cases r <;> rfl⟩, Chn.be hc.2⟩
  | _, [], _ :: _, h => h.elim
  | _, _ :: _, [], h => h.elim
/-- Flags that give may meet: a beginning that may have the lock and has it not, behind which the flags are right or none is set. -/
def OldOk : Option (Bool × Bool) → List Qe → List Bool → Prop
  | _, [], [] => True
  | pr, x :: r, h :: t => if h then h :: t = hs pr ((x :: r).map Qe.e) else if mayP pr x.e then OldOk (some (x.e, true)) r t else t = r.map fun _ => false
  | _, _, _ => False
theorem oldOk_off : ∀ (pr : Option (Bool × Bool)) (l : List Qe), OldOk pr l (l.map fun _ => false)
  | _, [] => trivial
  | pr, x :: r => by
    show (if false = true then _ else if mayP pr x.e = true then OldOk (some (x.e, true)) r (r.map fun _ => false) else _)
    rw [if_neg (by simp)]
    split
    · exact oldOk_off _ r
    · rfl
/-- What stood behind one that has left. -/
theorem oldOk_left (pr : Option (Bool × Bool)) (e : Bool) : ∀ l : List Qe, OldOk pr l (hs (some (e, mayP pr e)) (l.map Qe.e))
  | [] => trivial
  | y :: r => by
    rw [List.map_cons, hs]
    cases hy : mayP (some (e, mayP pr e)) y.e with
    | true =>
      show (if true = true then _ else _)
      rw [if_pos rfl, List.map_cons, hs]
      have h2 : mayP pr y.e = true := by
        cases pr with
        | none => rfl
        | some q =>
          obtain ⟨pe, ph⟩ := q
          simp only [mayP, Bool.and_eq_true, Bool.not_eq_true'] at hy ⊢
          exact ⟨⟨hy.1.1, hy.2.1.2⟩, hy.2.2⟩
      rw [h2]
    | false =>
      show (if false = true then _ else if mayP pr y.e = true then OldOk (some (y.e, true)) r (hs (some (y.e, false)) (r.map Qe.e)) else hs (some (y.e, false)) (r.map Qe.e) = _)
      rw [if_neg (by simp), hs_off, List.map_map]
      split
      · exact oldOk_off _ r
      · rfl
def PrOk (cs : Nat → Option Cl) (ah : Option Nat) (pr : Option (Bool × Bool)) : Prop := (ah = none ∧ pr = none) ∨ ∃ x d, ah = some x ∧ cs x = some d ∧ pr = some (d.ex, d.hd)
theorem PrOk.may {S : Sto} {a : Nat} {k : Ky} {e h : Bool} {ah be : Option Nat} {pr : Option (Bool × Bool)} (hp : PrOk S.cs ah pr) : mayS S ⟨a, k, e, h, ah, be⟩ = mayP pr e := by
  rcases hp with ⟨rfl, rfl⟩ | ⟨x, d, rfl, hd, rfl⟩
  · rfl
  · show (match S.cs x with | some d => !e && !d.ex && d.hd | none => false) = _
    rw [hd]; rfl
/-- What give leaves as it is. -/
theorem giv_same : ∀ (ps : List Nat) (S : Sto), (giv S ps).1.sp = S.sp ∧ (giv S ps).1.ln = S.ln ∧ (giv S ps).1.Q = S.Q ∧ (giv S ps).1.P = S.P ∧ (giv S ps).1.fi = S.fi ∧ (giv S ps).1.la = S.la ∧ (giv S ps).1.asked = S.asked
  | [], S => ⟨rfl, rfl, rfl, rfl, rfl, rfl, rfl⟩
  | p :: r, S => by
    cases hp : S.cs p with
    | none =>
      have : giv S (p :: r) = (S, []) := by rw [giv, hp]
      rw [this]; exact ⟨rfl, rfl, rfl, rfl, rfl, rfl, rfl⟩
    | some c =>
      cases hc : c.hd || !mayS S c with
      | true => rw [giv_stop r hp hc]; exact ⟨rfl, rfl, rfl, rfl, rfl, rfl, rfl⟩
      | false => rw [giv_go r hp hc]; exact giv_same r (giv1 S p c)
theorem giv_chn {k : Ky} : ∀ (l : List Qe) (fl : List Bool) (S : Sto) (ah : Option Nat) (pr : Option (Bool × Bool)) (en : Option Nat), Chn k S.cs ah l fl en → PrOk S.cs ah pr → OldOk pr l fl → (l.map Qe.p).Nodup →
    Chn k (giv S (l.map Qe.p)).1.cs ah l (hs pr (l.map Qe.e)) en ∧ ∀ y, y ∉ l.map Qe.p → (giv S (l.map Qe.p)).1.cs y = S.cs y
  | [], [], S, ah, pr, en, _, _, _, _ => ⟨trivial, fun _ _ => rfl⟩
  | [], _ :: _, _, _, _, _, h, _, _, _ => h.elim
  | _ :: _, [], _, _, _, _, h, _, _, _ => h.elim
  | x :: r, h :: t, S, ah, pr, en, hc, hp, ho, hn => by
    have hm := hp.may (a := x.a) (k := k) (e := x.e) (h := h) (be := nxt r en)
    have hn' := List.nodup_cons.1 hn
    rw [List.map_cons]
    cases h with
    | true =>
      have ho' : true :: t = hs pr ((x :: r).map Qe.e) := by
        have : (if true = true then true :: t = hs pr ((x :: r).map Qe.e) else _) := ho
        rwa [if_pos rfl] at this
      rw [giv_stop _ hc.1 rfl, ← ho']
      exact ⟨hc, fun _ _ => rfl⟩
    | false =>
      have ho' : if mayP pr x.e then OldOk (some (x.e, true)) r t else t = r.map fun _ => false := by
        have : (if false = true then _ else if mayP pr x.e then OldOk (some (x.e, true)) r t else t = r.map fun _ => false) := ho
        rwa [if_neg (by simp)] at this
      cases hy : mayP pr x.e with
      | false =>
        rw [hy, if_neg (by simp)] at ho'
        rw [giv_stop _ hc.1 (by rw [hm, hy]; rfl), List.map_cons, hs, hy, hs_off, List.map_map]
        refine ⟨?_, fun _ _ => rfl⟩
        have e : r.map ((fun _ => false) ∘ Qe.e) = t := ho'.symm
        rw [e]
        exact hc
      | true =>
        rw [hy, if_pos rfl] at ho'
        rw [giv_go _ hc.1 (by rw [hm, hy]; rfl)]
        have hfar : ∀ y, y ≠ x.p → (giv1 S x.p ⟨x.a, k, x.e, false, ah, nxt r en⟩).cs y = S.cs y := fun y hy => up_other _ _ hy
        have hself : (giv1 S x.p ⟨x.a, k, x.e, false, ah, nxt r en⟩).cs x.p = some ⟨x.a, k, x.e, true, ah, nxt r en⟩ := up_same _ _ _
        obtain ⟨i1, i2⟩ := giv_chn r t (giv1 S x.p ⟨x.a, k, x.e, false, ah, nxt r en⟩) (some x.p) (some (x.e, true)) en
          (hc.2.keep fun y hy => hfar _ fun e => hn'.1 (List.mem_map.2 ⟨y, hy, e⟩)) (.inr ⟨x.p, _, rfl, hself, rfl⟩) ho' hn'.2
        rw [List.map_cons, hs, hy]
        refine ⟨⟨?_, i1⟩, fun y hy => ?_⟩
        · rw [i2 x.p hn'.1]; exact hself
        · rw [List.mem_cons] at hy
          rw [i2 y (fun c => hy (.inr c))]
          exact hfar y (fun e => hy (.inl e))
end Go.Proofs.Yteenbebpdibbcaa
