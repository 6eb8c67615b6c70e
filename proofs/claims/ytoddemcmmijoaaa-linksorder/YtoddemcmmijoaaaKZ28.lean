/- Several texts as one. -/
import Derived.Test.YtoddemcmmijoaaaKZ27

/- Record: TakeEntry. -/
namespace Go.Proofs.Ytoddemcmmijoaaa
open Go.RowKit
set_option maxRecDepth 100000

theorem results_cell_row_tmp {P : Program} {fn : Func} {p u : Tmp} {ty : TypeId} (h : fn.results = #[.cell p ty, .tmp u]) (tmps : Array Value) (w : World) (g : Nat) (t : TypeId) (cs : Array Value) (fr : Nat × Nat) (d : TypeDesc)
    (hp : tmps.getD p undef = .pointer (some ⟨g, 0, none⟩)) (hg : w.heap[g]? = some (.cells cs t fr))
    (hu : P.underlying ty = some d) (hd : (match d with | .struct _ | .array _ _ => true | _ => false) = true) (hi : (P.info? ty).map (·.size) = some cs.size) :
    (results fn tmps).run P w = .ok (.tuple #[.agg cs, tmps.getD u undef]) w := by
  rw [results_cell_tmp h, hp]
  simp [asAddr, run_loadVar_row w g t ty cs fr d hg hu hd hi, Result.andThen]

def RS.fin (s : RS) : RS := if s.er = 0 ∧ s.zs ≠ [] then { s with er := 13 } else s
theorem fin_no {s : RS} (h : ¬ (s.er = 0 ∧ s.zs ≠ [])) : s.fin = s := by unfold RS.fin; rw [if_neg h]
theorem fin_yes {s : RS} (h : s.er = 0 ∧ s.zs ≠ []) : s.fin = { s with er := 13 } := by unfold RS.fin; rw [if_pos h]
def RS.fault (s : RS) (b : Bool) : Int := if s.er ≠ 0 then s.er else if b && !s.un then 0 else 40
/-- What bytes say as an entry. -/
def takeE (zs : List Int) : EntD × Int :=
  let r := (RS.mk zs 0 false).entry
  let e := r.2.fin.fault (mayE r.1)
  if e = 0 then (r.1, 0) else (dE, e)

end Go.Proofs.Ytoddemcmmijoaaa

/- Record: the simplest batch. -/
namespace Go.Proofs.Ytoddemcmmijoaaa
open Go.RowKit
set_option maxRecDepth 100000

def t1 : TxnD := ⟨1, 3, [], [], [], []⟩
def x1 : EntD := ⟨1, 2, 5, [t1]⟩
def want : List Int := [2, 1, 2, 2, 2, 5, 2, 1, 2, 1, 2, 3, 0, 0, 0, 0]
theorem x1_may : mayE x1 = true := by decide
theorem x1_form : entB x1 = want := by decide
theorem x1_read : takeE want = (x1, 0) := by decide

theorem seesK_nil (w : World) : SeesK w (.slice none 0 0) [] := ⟨none, 0, 0, 0, rfl, Nat.le_refl _, by simp, fun h => absurd h (by simp), fun t h => absurd h (by simp)⟩
theorem x1_fit : FitE x1 := by
  refine ⟨by decide, by decide, by decide, fun t ht => ?_, fun t ht => ?_⟩
  · simp only [x1, List.mem_singleton] at ht
    subst ht
    exact ⟨by decide, by decide, (fun b hb => by cases hb), (fun b hb => by cases hb), (fun b hb => by cases hb), (fun b hb => by cases hb)⟩
  · simp only [x1, List.mem_singleton] at ht
    subst ht
    decide
theorem want_byt : Byt want := by
  intro b hb
  simp only [want, List.mem_cons, List.not_mem_nil, or_false] at hb
  omega

end Go.Proofs.Ytoddemcmmijoaaa
