/- What is written, walked through; CodeBack's walk up to the range. -/
import Derived.Test.YtknpfippdddnhaaDoorQ3
import Derived.Test.YtknpfippdddnhaaDoorZ3
import Derived.Test.YtknpfippdddnhaaDoorU3
namespace Go.Proofs.YtknpfippdddnhaaDoor
open Go.RowKit Go.Shelf
attribute [local go_sem] Oper.semAt_some
set_option maxRecDepth 100000

theorem wk_adr : ∀ (R : List Ins) (A : List Int), encE R = 0 → wkR (A ++ R.flatMap putB) A.length = (adr A.length R, 0)
  | [], A, _ => by rw [wkR_end (by simp)]; rfl
  | x :: r, A, h => by
    by_cases hx : putE x = 0
    · rw [encE_yes hx] at h
      obtain ⟨h1, h2, h3⟩ := put_rd (A := A) (B := r.flatMap putB) hx
      have ih := wk_adr r (A ++ putB x) h
      rw [List.flatMap_cons, ← List.append_assoc, wkR_yes h1, h2, h3]
      rw [List.length_append] at ih
      rw [ih]
      rfl
    · rw [encE_not hx] at h; exact absurd h hx
def lenB (L : List Ins) : Nat := (L.flatMap putB).length
theorem adr_len : ∀ (L : List Ins) (p : Nat), (adr p L).length = L.length
  | [], _ => rfl
  | x :: r, p => by simp [adr, adr_len r]
theorem adr_at : ∀ (L : List Ins) (p n : Nat) (x : Ins), L[n]? = some x → (adr p L)[n]? = some ⟨(p + lenB (L.take n) : Nat), x.op, x.a, x.b, x.im⟩
  | [], p, n, x, h => by simp at h
  | y :: r, p, 0, x, h => by
    obtain rfl := Option.some.inj h
    simp [adr, lenB]
  | y :: r, p, n + 1, x, h => by
    have := adr_at r (p + (putB y).length) n x (by simpa using h)
    rw [adr, List.getElem?_cons_succ, this]
    simp [lenB, Nat.add_assoc]
theorem lenB_step {L : List Ins} {n : Nat} {x : Ins} (h : L[n]? = some x) : lenB (L.take (n + 1)) = lenB (L.take n) + (putB x).length := by
  obtain ⟨hl, e⟩ := List.getElem?_eq_some_iff.1 h
  unfold lenB
  rw [List.take_succ_eq_append_getElem hl, e, List.flatMap_append]; simp
theorem enc_ok {L : List Ins} (h : (enc L).2 = 0) : encE L = 0 ∧ (enc L).1 = L.flatMap putB ∧ (L.flatMap putB).length ≤ 512 := by
  by_cases h0 : encE L = 0
  · by_cases hl : 512 < (L.flatMap putB).length
    · rw [enc_long h0 hl] at h; cases h
    · rw [enc_yes h0 (by omega)]; exact ⟨h0, rfl, by omega⟩
  · rw [enc_no h0] at h; exact absurd h h0
theorem enc_wk {L : List Ins} (h : (enc L).2 = 0) : wkL (enc L).1 = adr 0 L := by
  obtain ⟨h1, h2, _⟩ := enc_ok h
  have := wk_adr L [] h1
  unfold wkL
  rw [h2]
  simpa using congrArg Prod.fst this
theorem encE_mem : ∀ {L : List Ins}, encE L = 0 → ∀ x ∈ L, putE x = 0
  | [], _, x, hx => by cases hx
  | y :: r, h, x, hx => by
    by_cases hy : putE y = 0
    · rw [encE_yes hy] at h
      rcases List.mem_cons.1 hx with rfl | hx
      · exact hy
      · exact encE_mem h x hx
    · rw [encE_not hy] at h; exact absurd h hy
theorem putE_im {x : Ins} (h : putE x = 0) : I64 x.im := by
  obtain ⟨hop, -, -, hft⟩ := putE_op h
  unfold fit at hft
  unfold I64
  split at hft
  · have := of_decide_eq_true hft; omega
  · have := of_decide_eq_true hft
    (repeat' split at this) <;> omega
theorem dec_okI {l : List Int} (hby : Byt l) (h : (dec l).2 = 0) : OkI (dec l).1 ∧ (dec l).1.length ≤ 512 := by
  obtain ⟨h1, h2, _⟩ := dec_ok h
  obtain ⟨e1, e2⟩ := wk_enc hby l.length 0 _ (by omega) (by omega) h2
  refine ⟨fun x hx => putE_im (encE_mem e1 x hx), ?_⟩
  have hle : ∀ L : List Ins, L.length ≤ (L.flatMap putB).length := fun L => by
    induction L with
    | nil => simp
    | cons x r ih =>
      rw [List.flatMap_cons, List.length_append, List.length_cons]
      have : 1 ≤ (putB x).length := by simp [putB]
      omega
  have := hle (dec l).1
  rw [e2, List.drop_zero] at this
  omega
end Go.Proofs.YtknpfippdddnhaaDoor
