/- Request: its rounds. -/
import Derived.Test.YteenbebpdibbcaaT1
namespace Go.Proofs.Yteenbebpdibbcaa
open Go.RowKit
set_option maxRecDepth 100000

theorem rise_lt {l : List Lk} (h : RiseL l) : ∀ {i j : Nat}, i < j → j < l.length → ltK (l.getD i default).1 (l.getD j default).1
  | i, 0, h1, _ => absurd h1 (by omega)
  | i, j + 1, h1, h2 => by
    by_cases e : i = j
    · subst e; exact h i h2
    · exact ltK_trans (rise_lt h (by omega) (by omega)) (h j h2)
theorem rise_not {l : List Lk} (h : RiseL l) {t : Nat} {k : Ky} {d : Bool} (hx : l[t]? = some (k, d)) : k ∉ (l.take t).map (·.1) := fun c => by
  obtain ⟨x, hx1, e⟩ := List.mem_map.1 c
  obtain ⟨i, hi, e2⟩ := List.getElem_of_mem hx1
  rw [List.length_take] at hi
  have ht := (List.getElem?_eq_some_iff.1 hx).1
  have hlt := rise_lt h (i := i) (j := t) (by omega) ht
  rw [show l.getD t default = (k, d) by simp [List.getD, hx], show l.getD i default = x by rw [← e2]; simp [List.getD]; rw [List.getElem?_eq_getElem (by omega)]; rfl, e] at hlt
  exact ltK_irrefl _ hlt
theorem LI.gok {S S1 : Sto} {L : List Am} {a : Am} {pend : Nat → Nat} (h : LI S (L ++ [a]) pend) {p : Nat} {k0 : Ky} {e : Bool} {ah : Option Nat} {v : Value} (hcp : S1.cs p = some ⟨a.ak, k0, e, false, ah, none⟩) (hah : ∀ x, ah = some x → ∃ d, S.cs x = some d)
    (hkeep : ∀ z c, S.cs z = some c → ∃ be, S1.cs z = some { c with be := be }) (hback : ∀ z c', S1.cs z = some c' → z ≠ p → ∃ c, S.cs z = some c ∧ c'.by' = c.by' ∧ c'.ah = c.ah) (hak : S1.ak = md S.ak a.ak fun A => { A with v := v, cl := A.cl ++ [p] }) : GOk S1 1 := by
  have hex : ∀ b A, S.ak b = some A → ∃ A', S1.ak b = some A' := fun b A hA => by
    by_cases eb : b = a.ak
    · rw [hak, eb, md_at, ← eb, hA]; exact ⟨_, rfl⟩
    · exact ⟨A, by rw [hak, md_far _ _ eb]; exact hA⟩
  refine ⟨fun x c hc => ?_, fun x c y hc hy => ?_, fun b A hA => ?_⟩
  · by_cases ex : x = p
    · rw [ex, hcp] at hc
      obtain rfl := Option.some.inj hc
      obtain ⟨A, hA, _⟩ := h.k.ak a (by simp)
      exact hex _ A hA
    · obtain ⟨c0, k1, k2, _⟩ := hback x c hc ex
      obtain ⟨A, hA⟩ := h.c1 x c0 k1
      rw [k2]; exact hex _ A hA
  · have : ∃ d, S.cs y = some d := by
      by_cases ex : x = p
      · rw [ex, hcp] at hc
        obtain rfl := Option.some.inj hc
        exact hah y hy
      · obtain ⟨c0, k1, _, k3⟩ := hback x c hc ex
        exact h.c2 x c0 y k1 (k3 ▸ hy)
    obtain ⟨d, hd⟩ := this
    obtain ⟨be, hd'⟩ := hkeep y d hd
    exact ⟨_, hd'⟩
  · by_cases eb : b = a.ak
    · obtain ⟨A0, k1, _⟩ := h.k.ak a (by simp)
      rw [hak, eb, md_at, k1] at hA
      obtain rfl := Option.some.inj hA
      have := h.k.rg _ _ k1
      show (1 : Nat) - (4398046511104 : Int) ≤ A0.lacks ∧ A0.lacks ≤ _
      omega
    · rw [hak, md_far _ _ eb] at hA
      have := h.k.rg b A hA
      omega
section
variable {B : Nat → Prop} {lb mq mp : Nat}
/-- Where Request's loop stands. -/
structure Rq (B : Nat → Prop) (lb mq mp : Nat) (w : World) (N : Nat) (L : List Am) (id : Ky) (l : List Lk) (num : Int) (pa n t : Nat) (wr : World) : Prop where
  ex : ∃ S x, Mem B lb mq mp wr S ∧ LI S (L ++ [x]) (fun b => if b = pa then n - t else 0) ∧ x.ak = pa ∧ x.id = id ∧ x.cl.map (·.2) = l.take t ∧ S.asked = num
  u : Upd B N w wr
theorem round_any {w wr W1 : World} {N n t pa n1 : Nat} {L : List Am} {id : Ky} {l : List Lk} {num : Int} {ka kb : Int} {d : Bool} (h : Rq B lb mq mp w N L id l num pa n t wr) (hB : ∀ j, wr.heap.size ≤ j → B j) (hN : N ≤ wr.heap.size) (hln : l.length = n) (hri : RiseL l) (ht : t < n) (hx : l[t]? = some ((ka, kb), d)) (hk : OkK (ka, kb)) (hn : n ≤ 1099511627776)
    (hn1 : wr.heap.size = n1) (hW1 : wr.alloc (.cells #[.int .i32 ka, .int .i64 kb, .bool d] 66) = W1) :
    Calls Try.prog 44 #[PN lb, .agg #[.int .i32 ka, .int .i64 kb]] W1.drew fun e w2 => ∃ q, e = .returned (PN q) ∧ w2.heap[n1]? = some (.cells #[.int .i32 ka, .int .i64 kb, .bool d] 66) ∧
      Calls Try.prog 45 #[PN q, .agg #[PN pa, .int .i32 ka, .int .i64 kb, .bool d, .bool false]] w2 fun e w3 => ∃ p, e = .returned (PN p) ∧ w3.heap[n1]? = some (.cells #[.int .i32 ka, .int .i64 kb, .bool d] 66) ∧
        ∃ a0 c0 m0 a1 m1 c1 y Z, w3.cell? ⟨pa, 3, none⟩ = some (.slice a0 m0 c0) ∧ w3.alloc (.cells #[PN p] 91) = Z ∧ (Builtin.append_ #[87, 87] 87 #[.slice a0 m0 c0, .slice (some ⟨w3.heap.size, 0, none⟩) 1 1]).run Try.prog Z = .ok (.slice a1 m1 c1) y ∧ y.cell? ⟨pa, 3, none⟩ = some (.slice a0 m0 c0) ∧ y.frozen? ⟨pa, 3, none⟩ = false ∧
          Calls Try.prog 46 #[PN p] (y.setCell ⟨pa, 3, none⟩ (.slice a1 m1 c1)) fun e w' => ∃ r, e = .returned r ∧ Rq B lb mq mp w N L id l num pa n (t + 1) w' := by
  obtain ⟨⟨S, x, hM, hL, hxa, hxi, hxc, hxn⟩, hu⟩ := h
  have b1 : Below wr.heap.size wr W1 := hW1 ▸ below_box _
  have z1 : W1.heap.size = n1 + 1 := by rw [← hW1, ← hn1]; simp
  have hbox : W1.heap[n1]? = some (.cells #[.int .i32 ka, .int .i64 kb, .bool d] 66) := by rw [← hW1, ← hn1]; exact heap_alloc_new wr _
  obtain ⟨B2, hB2⟩ : ∃ B2, (fun j => B j ∧ j ≠ n1) = B2 := ⟨_, rfl⟩
  have hle : ∀ j, B2 j → B j := fun j hj => by rw [← hB2] at hj; exact hj.1
  have hno : ¬ B2 n1 := fun hj => by rw [← hB2] at hj; exact hj.2 rfl
  have hBig : ∀ j, n1 + 1 ≤ j → B2 j := fun j hj => by rw [← hB2]; exact ⟨hB j (by omega), by omega⟩
  have hM1 : Mem B2 lb mq mp W1.drew S := by
    refine ((hM.cut.below b1).mono fun j _ hj => ?_).drew
    rw [← hB2]
    exact ⟨hj.1, by have := hj.2; omega⟩
  have hu1 : Upd B N w W1.drew := (hu.trans ((Upd.of b1).less hN)).drew
  have hboxd : W1.drew.heap[n1]? = some (.cells #[.int .i32 ka, .int .i64 kb, .bool d] 66) := hbox
  have hzd : W1.drew.heap.size = n1 + 1 := z1
  have step : ∀ {a b : World}, N ≤ a.heap.size → n1 + 1 ≤ a.heap.size → Upd B N w a → Upd B2 a.heap.size a b → Upd B N w b := fun {a b} h1 _ h2 h3 => h2.trans ((h3.less h1).mono (Nat.le_refl _) fun k _ hk => hle k hk)
  refine (queue_any hM1 (fun j hj => hBig j (by omega)) ka kb hk).mono fun e w2 ⟨q, Sq, e1, hQ, hM2, hu2⟩ => ⟨q, e1, (hu2.block n1 (by omega) hno).trans hboxd, ?_⟩
  have hs2 := hu2.size
  have hUp2 := step (by omega) (by omega) hu1 hu2
  have hbox2 := (hu2.block n1 (by omega) hno).trans hboxd
  refine (join_any hQ hL.q hM2 (fun j hj => hBig j (by omega)) pa d).mono fun e w3 ⟨p, Sj, ah, e2, hJ, hM3, hu3⟩ => ⟨p, e2, (hu3.block n1 (by omega) hno).trans hbox2, ?_⟩
  have hs3 := hu3.size
  have hUp3 := step (by omega) (by omega) hUp2 hu3
  obtain ⟨A, hA, _, _, hAc, _⟩ := hL.k.ak x (by simp)
  rw [hxa] at hA
  have hAj : Sj.ak pa = some A := by rw [hJ.rest.2.2.2.2.2]; exact hA
  have hAl : A.cl.length = t := by
    rw [hAc, List.length_map]
    have := congrArg List.length hxc
    rw [List.length_map, List.length_take] at this
    omega
  obtain ⟨a0, c0, v', y, hv, ⟨a1, m1, c1, hv'⟩, hr, hc3, hf3, hM4, hu4⟩ := hM3.push (fun j hj => hBig j (by omega)) hAj p (by omega)
  have hUp4 := step (by omega) (by omega) hUp3 hu4
  have hs4 := hu4.size
  subst hv'
  refine ⟨a0, c0, A.cl.length, a1, m1, c1, y, _, ?_, rfl, ?_, ?_, hf3, ?_⟩
  · rw [← hv]; exact hM3.rd_ak hAj 3
  · rw [← hv]; exact hr
  · rw [← hv]; exact hc3
  obtain ⟨Sp1, hSp⟩ : ∃ z, ({ Sj with ak := md Sj.ak pa fun A => { A with v := .slice a1 m1 c1, cl := A.cl ++ [p] } } : Sto) = z := ⟨_, rfl⟩
  rw [hSp] at hM4
  have k1 : Sp1.cs = Sj.cs := by rw [← hSp]
  have kak : Sp1.ak = md S.ak x.ak fun A => { A with v := .slice a1 m1 c1, cl := A.cl ++ [p] } := by rw [← hSp, hxa]; show md Sj.ak pa _ = _; rw [hJ.rest.2.2.2.2.2]
  have hcp : Sp1.cs p = some ⟨x.ak, (ka, kb), d, false, ah, none⟩ := by rw [k1, hxa]; exact hJ.cp
  have hkeep : ∀ z c, S.cs z = some c → ∃ be, Sp1.cs z = some { c with be := be } := by rw [k1]; exact hJ.keep
  have hback : ∀ z c', Sp1.cs z = some c' → z ≠ p → ∃ c, S.cs z = some c ∧ c'.by' = c.by' ∧ c'.ah = c.ah := by rw [k1]; exact hJ.back
  have hg := hL.gok hcp hJ.ah hkeep hback kak
  have hJ' : QJ Sp1 (addQ (Qs (L ++ [x])) (ka, kb) ⟨p, x.ak, d⟩) (ka, kb) (hs none ((Qs (L ++ [x]) (ka, kb)).map Qe.e) ++ [false]) := by
    rw [hxa]
    exact hJ.J.of k1 (by rw [← hSp]) (by rw [← hSp])
  have hpend : (fun b => if b = pa then n - t else 0) x.ak = (n - (t + 1)) + 1 := by
    show (if x.ak = pa then n - t else 0) = _
    rw [if_pos hxa]; omega
  have hLI := hL.claim hpend (p := p) (k0 := (ka, kb)) (e := d) (ah := ah) (v := .slice a1 m1 c1) hJ.no hJ' hcp hJ.ah hkeep hback (by rw [← hSp]; exact hJ.rest.1) (by rw [← hSp]; exact hJ.rest.2.1) (by rw [← hSp]; exact hJ.rest.2.2.1) (by rw [← hSp]; exact hJ.rest.2.2.2.1) (by rw [← hSp]; exact hJ.rest.2.2.2.2.1) kak hk (by
    have e : x.cl.map (·.2.1) = (l.take t).map (·.1) := by rw [← hxc, List.map_map]; rfl
    rw [e]; exact rise_not hri hx)
  have hpe : (fun b => if b = x.ak then n - (t + 1) else if b = pa then n - t else 0) = fun b => if b = pa then n - (t + 1) else 0 := funext fun b => by
    rw [hxa]
    by_cases e : b = pa
    · rw [if_pos e, if_pos e]
    · rw [if_neg e, if_neg e, if_neg e]
  rw [hpe] at hLI
  have hgive := give_any hM4 (fun j hj => hBig j (by omega)) (ps := [p]) ⟨⟨_, hcp, rfl⟩, trivial⟩ (by simp) hg (by simp)
  refine hgive.mono fun e w' ⟨v, e3, hM5, _, hu5⟩ => ⟨v, e3, ⟨_, _, hM5.mono (fun j _ hj => hle j hj), hLI, hxa, hxi, ?_, ?_⟩, step (by omega) (by omega) hUp4 hu5⟩
  · show (x.cl ++ [(p, ((ka, kb), d))]).map (·.2) = _
    rw [List.map_append, hxc, List.take_add_one, hx]; rfl
  · rw [(giv_same [p] Sp1).2.2.2.2.2.2, ← hSp]
    show Sj.asked = num
    rw [hJ.rest.2.2.2.2.1]; exact hxn
end
end Go.Proofs.Yteenbebpdibbcaa
