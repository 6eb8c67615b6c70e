/- The document's own reader (package trivetref04): Ends, and what a key is to it. -/
import Derived.Test.YtggllgimlfchhaaPD
import Derived.Test.YtggllgimlfchhaaKG
import Derived.Deep.RegionHeld3
namespace Go.Proofs.Ytggllgimlfchhaa
open Go.RowKit
set_option maxRecDepth 100000

theorem Sees.setI {w : World} {v : Value} {zs : List Int} {p : Addr} {n : Int} (h : Sees w .u8 v zs) (hp : w.cell? p = some (.int .i64 n)) (u : Value) : Sees (w.setCell p u) .u8 v zs := by
  obtain ⟨ao, cap, hv, hl, hn, ha⟩ := h
  refine ⟨ao, cap, hv, hl, hn, fun a e t ht => ?_⟩
  have c := ha a e t ht
  have hne : p ≠ a.add t := fun e => by rw [← e, hp] at c; simp at c
  exact (World.cell?_setCell_other _ _ _ _ hne).trans c
theorem tb_len (l : List Int) : (tb l).1.length ≤ l.length := by
  unfold tb
  split
  · simp
  · split
    · simp
    · split
      · simp
      · simp only [List.length_take, List.length_drop]; omega
theorem Dr.grown {w w' : World} {R lo base : Nat} {z0 : List Int} {s : RS} {v : Value} {e size n : Nat} {xs : List Value} (h : Dr w R lo z0 s) (ho : w.ownsRow base e size v n xs) (hb : R < base) (hg : w.grownBy w' v.ownBlock) : Dr w' R lo z0 s :=
  h.keep fun k hk => hg.block k (by have := h.rlt; omega) (fun e => by have := (ho.lt k e.symm).1; omega)

set_option maxHeartbeats 800000 in
theorem ends_d {w : World} {R lo : Nat} {z0 : List Int} {s : RS} (h : Dr w R lo z0 s) (b : Bool) :
    Calls Try.prog 23 #[.pointer (some ⟨R, 0, none⟩), .bool b] w fun e w' => e = .returned (.int .i64 (s.fault b)) ∧ w = w' := by
  have h1 := h.ce
  have h2 := h.cu
  clear h
  obtain ⟨zs, er, un⟩ := s
  simp only at h1 h2
  unfold RS.fault
  simp only
  by_cases he : er = 0
  · subst he
    cases b <;> cases un <;>
    · go_enter Try.func23, Try.ntmps23
      go_wp2
      go_ret
      exact ⟨rfl, rfl⟩
  · have heb : (er == 0) = false := by simpa using he
    rw [if_pos he]
    go_enter Try.func23, Try.ntmps23
    go_wp2
    go_ret
    exact ⟨rfl, rfl⟩

/-- A key, as the document reads it. -/
def RS.dkey (s : RS) : (Int × Int) × RS := ((if w32 s.num.1 = s.num.1 then s.num.1 else 0, s.fit32.2.num.1), s.fit32.2.num.2)
theorem dkey_st (s : RS) : s.dkey.2 = s.key.2 := rfl
theorem fit_un (s : RS) (h : s.fit32.2.un = false) : w32 s.num.1 = s.num.1 := by
  unfold RS.fit32 at h
  by_cases c : w32 s.num.1 = s.num.1
  · exact c
  · rw [if_neg c] at h; simp at h
theorem num_un (s : RS) : s.num.2.un = s.un := by unfold RS.num; split <;> rfl
theorem blob_un (s : RS) : s.blob.2.un = s.un := by unfold RS.blob; split <;> rfl
theorem must_un (s : RS) (b : Bool) : (s.must b).un = s.un := by unfold RS.must; split <;> rfl
theorem len_un (s : RS) : s.len.un = s.un := by unfold RS.len; rw [must_un, num_un]
theorem fit_mono (s : RS) (h : s.un = true) : s.fit32.2.un = true := by
  unfold RS.fit32
  split
  · rw [num_un, h]
  · rfl
theorem key_mono (s : RS) (h : s.un = true) : s.key.2.un = true := by unfold RS.key; rw [num_un]; exact fit_mono s h
theorem key_same (s : RS) (h : s.key.2.un = false) : s.dkey = s.key := by
  have : s.fit32.2.un = false := by unfold RS.key at h; rwa [num_un] at h
  have e := fit_un s this
  unfold RS.dkey RS.key
  rw [if_pos e]
  unfold RS.fit32
  rw [e]
theorem iter_st (s : RS) : ∀ k, (RS.iter RS.dkey k s).2 = (RS.iter RS.key k s).2
  | 0 => rfl
  | k + 1 => by
    have ih := iter_st s k
    by_cases h : (RS.iter RS.key k s).2.er = 0
    · rw [iter_step h, iter_step (by rw [ih]; exact h), ih]; rfl
    · rw [iter_stop h 1, iter_stop (by rw [ih]; exact h) 1, ih]
theorem iter_mono (s : RS) (k : Nat) (h : (RS.iter RS.key k s).2.un = true) : (RS.iter RS.key (k + 1) s).2.un = true := by
  by_cases he : (RS.iter RS.key k s).2.er = 0
  · rw [iter_step he]; exact key_mono _ h
  · rw [iter_stop he 1]; exact h
theorem iter_first (s : RS) (h : s.un = true) : ∀ k, (RS.iter RS.key k s).2.un = true
  | 0 => h
  | k + 1 => iter_mono s k (iter_first s h k)
theorem iter_same (s : RS) : ∀ k, (RS.iter RS.key k s).2.un = false → RS.iter RS.dkey k s = RS.iter RS.key k s
  | 0, _ => rfl
  | k + 1, h => by
    have hk : (RS.iter RS.key k s).2.un = false := by
      cases c : (RS.iter RS.key k s).2.un with
      | false => rfl
      | true => rw [iter_mono s k c] at h; cases h
    have ih := iter_same s k hk
    by_cases he : (RS.iter RS.key k s).2.er = 0
    · rw [iter_step he] at h ⊢
      rw [iter_step (by rw [ih]; exact he), ih, key_same _ h]
    · rw [iter_stop he 1, iter_stop (by rw [ih]; exact he) 1, ih]
theorem list_st (s : RS) : (s.list RS.dkey).2 = (s.list RS.key).2 := iter_st _ _
theorem list_same (s : RS) (h : (s.list RS.key).2.un = false) : s.list RS.dkey = s.list RS.key := iter_same _ _ h
theorem list_mono (s : RS) (h : s.un = true) : (s.list RS.key).2.un = true := iter_first _ (by rw [len_un]; exact h) _

/-- A transaction, as the document reads it. -/
def RS.dtxn (s : RS) : TxnD × RS :=
  let a := s.num
  let b := a.2.num
  let c := b.2.blob
  let d := c.2.list RS.num
  let e := d.2.list RS.dkey
  let f := e.2.list RS.dkey
  (⟨a.1, b.1, c.1, d.1, e.1, f.1⟩, f.2)
theorem dtxn_st (s : RS) : s.dtxn.2 = s.txn.2 := by
  unfold RS.dtxn RS.txn
  simp only
  rw [list_st, list_st]
theorem dtxn_same (s : RS) (h : s.txn.2.un = false) : s.dtxn = s.txn := by
  unfold RS.txn at h
  unfold RS.dtxn RS.txn
  simp only at h ⊢
  have h1 : (((s.num.2.num.2.blob.2.list RS.num).2.list RS.key).2).un = false := by
    cases c : (((s.num.2.num.2.blob.2.list RS.num).2.list RS.key).2).un with
    | false => rfl
    | true => rw [list_mono _ c] at h; cases h
  rw [list_same _ h1, list_same _ h]
end Go.Proofs.Ytggllgimlfchhaa
