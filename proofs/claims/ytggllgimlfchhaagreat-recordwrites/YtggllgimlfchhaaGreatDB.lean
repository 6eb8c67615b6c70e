/- Record: a list of termed entries written. -/
import Derived.Test.YtggllgimlfchhaaGreatDA
import Derived.Test.YtggllgimlfchhaaGreatGC
namespace Go.Proofs.YtggllgimlfchhaaGreat
open Go.RowKit
set_option maxRecDepth 100000

/-- Termed entries' forms, one behind the other. -/
def tmsB (l : List TmD) : List Int := (l.map tmB).flatten
theorem tmB_le {t : TmD} (h : mayE t.ent = true) : (tmB t).length ≤ 40009 := by
  have l1 := putL_le [t.term]
  have l2 := entB_le h
  unfold tmB
  simp only [List.length_append, List.length_cons, List.length_nil] at l1 ⊢
  omega
theorem tmsB_le {l : List TmD} (h : ∀ t ∈ l, mayE t.ent = true) : (tmsB l).length ≤ 40009 * l.length := by
  induction l with
  | nil => simp [tmsB]
  | cons x r ih =>
    have h1 := tmB_le (h x (List.mem_cons_self ..))
    have h2 := ih (fun t ht => h t (List.mem_cons_of_mem _ ht))
    simp only [tmsB, List.map_cons, List.flatten_cons, List.length_append, List.length_cons] at h2 ⊢
    omega
theorem take_tms (l : List TmD) (t : Nat) (ht : t < l.length) : tmsB (l.take (t + 1)) = tmsB (l.take t) ++ tmB (l.getD t dM) := by
  have e : l.getD t dM = l[t] := by simp [List.getD, ht]
  rw [e]
  unfold tmsB
  rw [List.take_succ_eq_append_getElem ht, List.map_append, List.flatten_append]
  simp only [List.map_cons, List.map_nil, List.flatten_cons, List.flatten_nil, List.append_nil]

set_option maxHeartbeats 1600000 in
theorem putTms_any {w0 w : World} {B lo : Nat} {xs : List Int} (h : Wr w B lo xs) (v : Value) (l : List TmD) (hb0 : Below w0.heap.size w0 w) (hN : w0.heap.size ≤ B) (hS : SeesTms w0 v l) (hf : ∀ t ∈ l, FitTm t) (hm : ∀ t ∈ l, mayE t.ent = true) (hl : l.length ≤ 4096) (hn : xs.length ≤ 1048576) :
    Calls Tryz.prog 125 #[.pointer (some ⟨B, 0, none⟩), v, .func (.func 126) #[.agg #[.pointer (some ⟨B, 0, none⟩)]] #[]] w fun e w' => e = .returned (.tuple #[]) ∧ Wr w' B lo (xs ++ (putL [(l.length : Int)] ++ tmsB l)) ∧ Wrote B lo w w' := by
  have hlt := h.lt; have hle := h.le
  obtain ⟨ao, cap, gb, ob, rfl, hcap, _, hao, hcl⟩ := hS
  have hal : Below w.heap.size w (w.alloc (.cells #[.int .i64 (l.length : Int)] 2)) := (Below.refl _ _).alloc (Nat.le_refl _) _
  have hs := sees_lit w [(l.length : Int)] (by simp)
  have hsz : sizeL [(l.length : Int)] ≤ 9 := sizeL_le [(l.length : Int)]
  have HN := hide (nums_any (h.below hal) _ [(l.length : Int)] hs (by simp) (i64_of fun x hx => by simp at hx; subst hx; omega) (by omega))
  have HW : Hid (Wrote B lo w _) := Wrote.of hal
  have HF := hide hf
  have HM := hide hm
  have HAO := hide hao
  have HCL := hide hcl
  have HWB : Hid (∀ w', Wrote B lo w w' → Below w0.heap.size w0 w') := fun w' k => hb0.trans (k.below hN (by omega) (by have := hb0.size; omega))
  clear h hal hs hsz hf hm hlt hle hao hcl hb0
  go_enter Tryz.func125, Tryz.ntmps125
  go_wp2_with fail
  simp only [List.length_cons, List.length_nil, Nat.reduceAdd] at HN
  refine (unhide HN).mono ?_
  rintro e w2 ⟨rfl, h1, h2⟩
  have HR : Hid (Wr w2 B lo (xs ++ (putL [(l.length : Int)] ++ tmsB (l.take 0))) ∧ Wrote B lo w w2) := ⟨by simpa [tmsB] using h1, (unhide HW).trans h2⟩
  clear h1 h2 HN
  go_wp2
  go_loopw [15] (fun c wr => ∃ t : Nat, t ≤ l.length ∧ c = .int .i64 t ∧ Wr wr B lo (xs ++ (putL [(l.length : Int)] ++ tmsB (l.take t))) ∧ Wrote B lo w wr) (fun c _ => l.length - (intOf c).toNat)
  case atStart => exact ⟨0, by omega, rfl, (unhide HR).1, (unhide HR).2⟩
  case round =>
    obtain ⟨t, ht, rfl, hw, hwr⟩ := hrel
    by_cases hlt : t < l.length
    · obtain rfl := unhide HAO (by omega)
      have hb := unhide HWB _ hwr
      obtain ⟨tv, a0, a1, a2, a3, a4, ahs⟩ := unhide HCL t hlt
      have hmem : l.getD t dM ∈ l := by
        have e : l.getD t dM = l[t] := by simp [List.getD, hlt]
        rw [e]; exact List.getElem_mem hlt
      have hft := unhide HF _ hmem
      have hmt := unhide HM _ hmem
      have htk := take_tms l t hlt
      obtain ⟨d, hd⟩ : ∃ d, l.getD t dM = d := ⟨_, rfl⟩
      rw [hd] at a0 a1 a2 a3 ahs hft hmt htk
      have HK : Hid (∀ x, Below w0.heap.size w0 x → StTs w0.heap.size x tv d.ent.txns) := fun x hx => (StTs.of ahs).on hx
      obtain ⟨ta, tc, _, _, rfl, _⟩ := ahs
      have cc : ∀ o u, w0.cell? ⟨gb, o, none⟩ = some u → wr.cell? ⟨gb, o, none⟩ = some u := fun o u h => (hb.cell (p := ⟨gb, o, none⟩) (World.block_lt_of_cell? w0 _ h)).trans h
      have kh0 := cc _ _ a0
      have kh1 := cc _ _ a1
      have kh2 := cc _ _ a2
      have kh3 := cc _ _ a3
      have kh4 := cc _ _ a4
      have hlen : (xs ++ (putL [(l.length : Int)] ++ tmsB (l.take t))).length ≤ 2147483648 := by
        have l1 := putL_le [(l.length : Int)]
        have l2 := tmsB_le (l := l.take t) (fun x hx => unhide HM x (List.mem_of_mem_take hx))
        simp only [List.length_append, List.length_cons, List.length_nil, List.length_take] at l1 l2 ⊢
        omega
      have hal0 : ∀ ob, Below wr.heap.size wr (wr.alloc ob) := fun _ => (Below.refl _ _).alloc (Nat.le_refl _) _
      have HC : Hid (∀ ob, Calls Tryz.prog 126 #[.agg #[.pointer (some ⟨B, 0, none⟩)], .agg #[.int .i64 d.term, .int .i64 d.ent.kind, .int .i64 d.ent.frm, .int .i64 d.ent.num, .slice ta d.ent.txns.length tc]] (wr.alloc ob) fun e w' => e = .returned (.tuple #[]) ∧ Wr w' B lo (xs ++ (putL [(l.length : Int)] ++ tmsB (l.take t)) ++ tmB d) ∧ Wrote B lo (wr.alloc ob) w') := fun ob => termed_any (N := w0.heap.size) (hw.below (hal0 ob)) d _ hN hlen (unhide HK _ (hb.trans ((hal0 ob).mono hb.size))) hft hmt
      have HW2 : Hid (∀ ob, Wrote B lo w (wr.alloc ob)) := fun ob => hwr.trans (Wrote.of (hal0 ob))
      have HTK := hide htk
      obtain ⟨a, e1⟩ : ∃ n, d.term = n := ⟨_, rfl⟩
      obtain ⟨k, e2⟩ : ∃ n, d.ent.kind = n := ⟨_, rfl⟩
      obtain ⟨f, e3⟩ : ∃ n, d.ent.frm = n := ⟨_, rfl⟩
      obtain ⟨n, e4⟩ : ∃ n, d.ent.num = n := ⟨_, rfl⟩
      obtain ⟨tl, e5⟩ : ∃ n, d.ent.txns.length = n := ⟨_, rfl⟩
      rw [e1, e2, e3, e4, e5] at HC
      rw [e1] at kh0
      rw [e2] at kh1
      rw [e3] at kh2
      rw [e4] at kh3
      rw [e5] at kh4
      have HC1 := hide (unhide HC (.cells #[.int .i64 a, .int .i64 k, .int .i64 f, .int .i64 n, .slice ta tl tc] 140))
      clear hw hwr hb hlen hft hmt htk hmem HK a0 a1 a2 a3 a4 cc hal0 e1 e2 e3 e4 e5 hd HC
      go_wp2_with fail
      refine (unhide HC1).mono ?_
      rintro e w3 ⟨rfl, h1, h2⟩
      have HR3 : Hid (Wr w3 B lo (xs ++ (putL [(l.length : Int)] ++ tmsB (l.take (t + 1)))) ∧ Wrote B lo w w3) := ⟨by rw [unhide HTK]; simpa only [List.append_assoc] using h1, (unhide HW2 _).trans h2⟩
      clear h1 h2 HC1
      go_wp2
      go_roundw
      case rel => exact ⟨t + 1, by omega, by go_num, (unhide HR3).1, (unhide HR3).2⟩
      case measure => simp [intOf]; omega
    · have HE : Hid (Wr wr B lo (xs ++ (putL [(l.length : Int)] ++ tmsB l)) ∧ Wrote B lo w wr) := by
        rw [List.take_of_length_le (by omega)] at hw
        exact ⟨hw, hwr⟩
      clear hw hwr
      go_wp2
      go_end0
      exact ⟨rfl, unhide HE⟩
end Go.Proofs.YtggllgimlfchhaaGreat
