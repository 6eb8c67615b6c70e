/- A claim leaves its queue. -/
import Derived.Test.YteenbebpdibbcaaS7
namespace Go.Proofs.Yteenbebpdibbcaa
open Go.RowKit
set_option maxRecDepth 100000

def unlC (S : Sto) (q : Nat) (ah be : Option Nat) : Sto := unlC2 (unlC1 S q ah be) q ah be
def unlA (S : Sto) (ah be : Option Nat) : Sto := unlA2 (unlA1 S ah be) ah be
/-- The claim p has left its queue q, which is gone if it was the last one. -/
def lvS (S : Sto) (q : Nat) (c : Cl) : Sto :=
  if ((unlC S q c.ah c.be).ln q).bind Ln.f = none then { unlC S q c.ah c.be with Q := fun x => if x = c.k then none else (unlC S q c.ah c.be).Q x } else unlC S q c.ah c.be
section
variable {B : Nat → Prop} {lb mq mp : Nat} {w : World} {S : Sto}
theorem leaveC_any (h : Mem B lb mq mp w S) {q p : Nat} {c : Cl} {n : Ln} (hp : S.cs p = some c) (hq : S.ln q = some n) (hah : ∀ x, c.ah = some x → (∃ d, S.cs x = some d) ∧ x ≠ p) (hbe : ∀ y, c.be = some y → (∃ d, S.cs y = some d) ∧ y ≠ p ∧ c.ah ≠ some y) :
    Calls Try.prog 68 #[PN q, PN p] w fun e w' => e = .returned (.tuple #[]) ∧ Mem B lb mq mp w' (unlC S q c.ah c.be) ∧ Upd B w.heap.size w w' := by
  obtain ⟨a, k, ex, hd, ah, be⟩ := c
  cases ah with
  | none =>
    cases be with
    | none => exact leaveC_nn h hp hq
    | some y =>
      obtain ⟨⟨d, hd'⟩, h1, _⟩ := hbe y rfl
      exact leaveC_ns h hd' h1 hp hq
  | some x =>
    obtain ⟨⟨dx, hdx⟩, hx1⟩ := hah x rfl
    cases be with
    | none => exact leaveC_sn h hdx hx1 hp hq
    | some y =>
      obtain ⟨⟨d, hd'⟩, h1, h2⟩ := hbe y rfl
      exact leaveC_ss h hdx hx1 hd' h1 (fun e => h2 (by rw [e])) hp hq
theorem leaveA_any (h : Mem B lb mq mp w S) {p : Nat} {c : Sp} (hp : S.sp p = some c) (hah : ∀ x, c.ah = some x → (∃ d, S.sp x = some d) ∧ x ≠ p) (hbe : ∀ y, c.be = some y → (∃ d, S.sp y = some d) ∧ y ≠ p ∧ c.ah ≠ some y) :
    Calls Try.prog 47 #[.pointer (some ⟨lb, 1, none⟩), PN p] w fun e w' => e = .returned (.tuple #[]) ∧ Mem B lb mq mp w' (unlA S c.ah c.be) ∧ Upd B w.heap.size w w' := by
  obtain ⟨a, ah, be⟩ := c
  cases ah with
  | none =>
    cases be with
    | none => exact leaveA_nn h hp
    | some y =>
      obtain ⟨⟨d, hd'⟩, h1, _⟩ := hbe y rfl
      exact leaveA_ns h hd' h1 hp
  | some x =>
    obtain ⟨⟨dx, hdx⟩, hx1⟩ := hah x rfl
    cases be with
    | none => exact leaveA_sn h hdx hx1 hp
    | some y =>
      obtain ⟨⟨d, hd'⟩, h1, h2⟩ := hbe y rfl
      exact leaveA_ss h hdx hx1 hd' h1 (fun e => h2 (by rw [e])) hp
theorem unlC_ln (S : Sto) {q : Nat} {n : Ln} (hq : S.ln q = some n) (ah be : Option Nat) : ∃ n', (unlC S q ah be).ln q = some n' := by
  cases ah <;> cases be <;> simp [unlC, unlC1, unlC2, md, hq]
theorem unlC_Q (S : Sto) (q : Nat) (ah be : Option Nat) : (unlC S q ah be).Q = S.Q := by
  cases ah <;> cases be <;> rfl
theorem unlC_p (S : Sto) {p : Nat} {c : Cl} (hp : S.cs p = some c) (q : Nat) {ah be : Option Nat} (h1 : ah ≠ some p) (h2 : be ≠ some p) : (unlC S q ah be).cs p = some c := by
  cases ah with
  | none =>
    cases be with
    | none => exact hp
    | some y =>
      show md S.cs y _ p = _
      unfold md
      rw [if_neg (fun e => h2 (by rw [e]))]
      exact hp
  | some x =>
    have e1 : md S.cs x (fun c => { c with be := be }) p = some c := by
      unfold md
      rw [if_neg (fun e => h1 (by rw [e]))]
      exact hp
    cases be with
    | none => exact e1
    | some y =>
      show md (md S.cs x _) y _ p = _
      unfold md at e1 ⊢
      rw [if_neg (fun e => h2 (by rw [e]))]
      exact e1
set_option maxHeartbeats 1000000 in
theorem lleave_any (h : Mem B lb mq mp w S) (hB : ∀ j, w.heap.size ≤ j → B j) {q p : Nat} {c : Cl} {n : Ln} (hp : S.cs p = some c) (hk : OkK c.k) (hQ : S.Q c.k = some q) (hq : S.ln q = some n) (hah : ∀ x, c.ah = some x → (∃ d, S.cs x = some d) ∧ x ≠ p) (hbe : ∀ y, c.be = some y → (∃ d, S.cs y = some d) ∧ y ≠ p ∧ c.ah ≠ some y)
    {qs : List Nat} (hqs : c.be = qs.head?) (hb : BeL (lvS S q c).cs qs) (hnd : qs.Nodup) (hg : GOk (lvS S q c) qs.length) (hl : qs.length ≤ 1099511627776) :
    Calls Try.prog 48 #[PN lb, PN p] w fun e w' => ∃ v, e = .returned v ∧ Mem B lb mq mp w' (giv (lvS S q c) qs).1 ∧ w'.ownsRow w.heap.size 86 1 v (giv (lvS S q c) qs).2.length ((giv (lvS S q c) qs).2.map PN) ∧ Upd B w.heap.size w w' := by
  obtain ⟨N, hN⟩ : ∃ n, w.heap.size = n := ⟨_, rfl⟩
  obtain ⟨a, b, hab⟩ : ∃ a b, c.k = (a, b) := ⟨_, _, rfl⟩
  rw [hab] at hk hQ
  obtain ⟨W0, hW0⟩ : ∃ z, w.alloc (.cells #[.int .i32 a, .int .i64 b] 45) = z := ⟨_, rfl⟩
  have b1 : Below w.heap.size w W0 := hW0 ▸ below_box _
  have z0 : W0.heap.size = N + 1 := by rw [← hW0, ← hN]; simp
  have m0 := h.cut.below b1
  rw [hN] at m0
  obtain ⟨W1, hW1⟩ : ∃ z, W0.drew = z := ⟨_, rfl⟩
  have m1 : Mem (fun j => B j ∧ j < N) lb mq mp W1 S := hW1 ▸ m0.drew
  have u1 : Upd B N w W1 := by rw [← hW1, ← hN]; exact (Upd.of b1).drew
  have hc0 : W0.heap[N]? = some (.cells #[.int .i32 a, .int .i64 b] 45) := by rw [← hW0, ← hN]; exact heap_alloc_new w _
  have hc : W1.heap[N]? = some (.cells #[.int .i32 a, .int .i64 b] 45) := by rw [← hW1]; exact hc0
  have z1 : W1.heap.size = N + 1 := by rw [← hW1]; exact z0
  have c0 : W1.cell? ⟨N, 0, none⟩ = some (.int .i32 a) := cell_at hc
  have c1 : W1.cell? ⟨N, 1, none⟩ = some (.int .i64 b) := cell_at hc
  have l0 : W1.cell? ⟨lb, 0, none⟩ = some (.map (some mq)) := m1.rd_top 0
  have p1 : w.cell? ⟨p, 1, none⟩ = some (.int .i32 a) := (h.rd_cs hp 1).trans (by show some (Value.int .i32 c.k.1) = _; rw [hab])
  have p2 : w.cell? ⟨p, 2, none⟩ = some (.int .i64 b) := (h.rd_cs hp 2).trans (by show some (Value.int .i64 c.k.2) = _; rw [hab])
  have hL0 := m1.lookQ_has a b hk hQ
  have hL2 := m1.drew.lookQ_has a b hk hQ
  obtain ⟨n', hn'⟩ := unlC_ln S hq c.ah c.be
  have hpS := unlC_p S hp q (ah := c.ah) (be := c.be) (fun e => (hah p e).2 rfl) (fun e => (hbe p e).2.1 rfl)
  have hbind : ((unlC S q c.ah c.be).ln q).bind Ln.f = n'.f := by rw [hn']; rfl
  have HC : Hid (Calls Try.prog 68 #[PN q, PN p] W1 fun e w2 => e = .returned (.tuple #[]) ∧ Mem B lb mq mp w2 (unlC S q c.ah c.be) ∧ Upd B N w w2 ∧ N ≤ w2.heap.size ∧ w2.heap[N]? = some (.cells #[.int .i32 a, .int .i64 b] 45)) := by
    refine (leaveC_any m1 hp hq hah hbe).mono fun e w2 ⟨h1, h2, h3⟩ => ⟨h1, h2.mono fun _ _ x => x.1, u1.trans ((h3.less (by omega)).mono (Nat.le_refl _) fun _ _ x => x.1), by have := h3.size; omega, ?_⟩
    rw [h3.block N (by omega) (fun x => by omega)]
    exact hc
  have HG : Hid (∀ w3 : World, Mem B lb mq mp w3 (lvS S q c) → Upd B N w w3 → N ≤ w3.heap.size → Calls Try.prog 46 #[PO qs.head?] w3 fun e w' => ∃ v, e = .returned v ∧ Mem B lb mq mp w' (giv (lvS S q c) qs).1 ∧ w'.ownsRow N 86 1 v (giv (lvS S q c) qs).2.length ((giv (lvS S q c) qs).2.map PN) ∧ Upd B N w w') := fun w3 h3 u3 hs => by
    refine (give_any h3 (fun j hj => hB j (by omega)) hb hnd hg hl).mono fun e w' ⟨v, h4, h5, h6, h7⟩ => ⟨v, h4, h5, own_mono h6 hs, u3.trans (h7.less hs)⟩
  have HP : Hid (∀ w3 : World, Mem B lb mq mp w3 (lvS S q c) → w3.cell? ⟨p, 6, none⟩ = some (PO c.be)) := fun w3 h3 => by
    have e : (lvS S q c).cs p = some c := by
      unfold lvS
      split
      · exact hpS
      · exact hpS
    exact h3.rd_cs e 6
  have hbtq := h.bt.2.1
  rw [hN]
  cases hf : n'.f with
  | none =>
    have hS : lvS S q c = { unlC S q c.ah c.be with Q := fun x => if x = (a, b) then none else (unlC S q c.ah c.be).Q x } := by unfold lvS; rw [hbind, hf, if_pos rfl, hab]
    have HD : Hid (∀ w2 : World, Mem B lb mq mp w2 (unlC S q c.ah c.be) → Upd B N w w2 → N ≤ w2.heap.size → ∃ y, (∀ ty, (Builtin.delete_ #[68, 45] ty #[.map (some mq), .agg #[.int .i32 a, .int .i64 b]]).run Try.prog w2 = .ok (.tuple #[]) y) ∧ Mem B lb mq mp y (lvS S q c) ∧ Upd B N w y ∧ N ≤ y.heap.size) := fun w2 h2 u2 hs => by
      obtain ⟨y, hr, hm, hfar, hsz, e1, e2, e3⟩ := h2.q.del Try.under68 a b hk
      refine ⟨y, hr, ?_, u2.trans ⟨e1, e2, e3, by rw [hsz]; exact Nat.le_refl _, fun k _ hs => hfar k (fun e => hs (e ▸ hbtq))⟩, by omega⟩
      rw [hS]
      refine h2.map_q hfar ?_
      have e : (fun k => (((fun x => if x = (a, b) then none else (unlC S q c.ah c.be).Q x) : Ky → Option Nat) k).map PN) = offF (fun k => ((unlC S q c.ah c.be).Q k).map PN) (a, b) := funext fun x => by
        unfold offF
        by_cases e : x = (a, b)
        · simp [e]
        · simp [e]
      rw [e]; exact hm
    have HN : Hid (∀ w2 : World, Mem B lb mq mp w2 (unlC S q c.ah c.be) → w2.cell? ⟨q, 0, none⟩ = some nilP ∧ w2.cell? ⟨lb, 0, none⟩ = some (.map (some mq))) := fun w2 h2 => ⟨(h2.rd_ln hn' 0).trans (by show some (PO n'.f) = _; rw [hf]; rfl), h2.rd_top 0⟩
    have HDR : Hid (∀ w2 : World, Mem B lb mq mp w2 (unlC S q c.ah c.be) → Upd B N w w2 → Mem B lb mq mp w2.drew (unlC S q c.ah c.be) ∧ Upd B N w w2.drew) := fun w2 h2 u2 => ⟨h2.drew, u2.drew⟩
    clear m0 m1 u1 hc0 hc hah hbe hp hpS hbind hn' hq hS h hb hg hnd b1
    go_enter Try.func48, Try.ntmps48
    go_wp2
    try rw [hN]
    try rw [hW0]
    go_region
    try rw [hW1]
    go_wp2_with (go_at_call 68; refine (unhide HC).mono ?_; rintro e w2 ⟨rfl, h2, u2, hs2, hc2⟩; obtain ⟨k1, k2⟩ := unhide HN w2 h2; have n0 : w2.cell? ⟨N, 0, none⟩ = some (.int .i32 a) := cell_at hc2; have n1 : w2.cell? ⟨N, 1, none⟩ = some (.int .i64 b) := cell_at hc2)
    obtain ⟨y, hr, hMy, uy, hy⟩ := unhide HD w2.drew (unhide HDR w2 h2 u2).1 (unhide HDR w2 h2 u2).2 hs2
    have hp6 := unhide HP y hMy
    have HG2 := hide (unhide HG y hMy uy hy)
    clear h2 u2 hs2 hc2 hMy uy hy HD HDR HN HG HP HC
    go_region
    go_wp2_with (go_at_call 46; refine (unhide HG2).mono ?_; rintro e w' ⟨v, rfl, q1, q2, q3⟩; have HQ := hide (And.intro q1 (And.intro q2 q3)); clear q1 q2 q3)
    go_ret
    exact ⟨v, rfl, unhide HQ⟩
  | some f =>
    have hS : lvS S q c = unlC S q c.ah c.be := by unfold lvS; rw [hbind, hf, if_neg (by simp)]
    have HN : Hid (∀ w2 : World, Mem B lb mq mp w2 (unlC S q c.ah c.be) → w2.cell? ⟨q, 0, none⟩ = some (PN f)) := fun w2 h2 => (h2.rd_ln hn' 0).trans (by show some (PO n'.f) = _; rw [hf]; rfl)
    rw [← hS] at HN HC
    clear m0 m1 u1 hc0 hc hah hbe hp hpS hbind hn' hq hS h hb hg hnd b1
    go_enter Try.func48, Try.ntmps48
    go_wp2
    try rw [hN]
    try rw [hW0]
    go_region
    try rw [hW1]
    go_wp2_with (first | (go_at_call 68; refine (unhide HC).mono ?_; rintro e w2 ⟨rfl, h2, u2, hs2, hc2⟩; have k1 := unhide HN w2 h2; have hp6 := unhide HP w2 h2; have HG2 := hide (unhide HG w2 h2 u2 hs2); clear h2 u2 hs2 hc2) | (go_at_call 46; refine (unhide HG2).mono ?_; rintro e w' ⟨v, rfl, q1, q2, q3⟩; have HQ := hide (And.intro q1 (And.intro q2 q3)); clear q1 q2 q3))
    go_ret
    exact ⟨v, rfl, unhide HQ⟩
end
end Go.Proofs.Yteenbebpdibbcaa
