/- Several texts as one. -/
import Derived.Test.YtggllgimlfchhabGreatKV
import Derived.Test.YtggllgimlfchhabGreatKQ

/- take of bytes; the reader's blob; TakeBlob. -/
namespace Go.Proofs.YtggllgimlfchhabGreat
open Go.RowKit
set_option maxRecDepth 100000

set_option maxHeartbeats 400000 in
theorem catch_giveup50 (b : Nat) (x er : Int) (w : World) (hc : w.cell? ⟨b, 0, none⟩ = some (.int .i64 x)) (hz : w.frozen? ⟨b, 0, none⟩ = false) (hp : b < w.heap.size) :
    CallsD Tryz.prog 110 #[.pointer (some ⟨b, 0, none⟩)] (.panicking [{ v := .iface 151 (.agg #[.int .i64 er]), recovered := false }]) w fun e u' w' =>
      e = .returned (.tuple #[]) ∧ u' = .panicking [{ v := .iface 151 (.agg #[.int .i64 er]), recovered := true }] ∧ w' = (w.setCell ⟨b, 0, none⟩ (.int .i64 er)).alloc (.cells #[.int .i64 er] 151) := by
  have hta := ta_yes er
  have hne : ¬ b = w.heap.size := by omega
  refine callsD_of_wpS Tryz.func110 rfl fun c₀ cs hu => ?_
  apply wpS_seq
  apply wpS_region
  simp [wpOpsS, go_sem, recoverD, hu, Tryz.ntmps110, Exit.thenS]
  refine wpS_of_wp ?_
  simp [Array.replicate]
  go_wp2
  exact ⟨rfl, _, rfl, _, by simp [results, Tryz.results110], rfl, rfl, rfl⟩

set_option maxHeartbeats 400000 in
theorem catch_idle50 (b : Nat) (w : World) :
    CallsD Tryz.prog 110 #[.pointer (some ⟨b, 0, none⟩)] .returning w fun e u' w' =>
      e = .returned (.tuple #[]) ∧ u' = .returning ∧ w' = w.alloc (.cells #[.int .i64 0] 151) := by
  have hta := ta_no
  refine callsD_of_wpS Tryz.func110 rfl fun c₀ cs hu => ?_
  apply wpS_seq
  apply wpS_region
  simp [wpOpsS, go_sem, recoverD, hu, Tryz.ntmps110, Exit.thenS]
  refine wpS_of_wp ?_
  simp [Array.replicate]
  go_wp2
  refine ⟨rfl, .returning, by cases c₀; simp_all, _, by simp [results, Tryz.results110], rfl, rfl, rfl⟩

set_option maxHeartbeats 400000 in
theorem take37_38_no (ao : Option Addr) (len cap : Nat) (er : Int) (w : World)
    (hpart : Calls Tryz.prog 132 #[.pointer (some ⟨w.heap.size + 1, 0, none⟩)] (tw w (.slice ao len cap)) fun e w' => e = GiveUp er ∧ Below (w.heap.size + 1) (tw w (.slice ao len cap)) w') :
    Calls Tryz.prog 74 #[.slice ao len cap, .func (Fn.func 132) #[] #[]] w fun e w' => e = .returned (.tuple #[.slice none 0 0, .int .i64 0, .int .i64 er]) ∧ Below w.heap.size w w' := by
  have hmf : ∀ (fn : Fn) (first cap : Array Value) (w : World), (Instr.makeFunc fn first cap).run Tryz.prog w = .ok (.func fn first cap) w := fun _ _ _ _ => rfl
  have HP := hide hpart
  clear hpart
  go_enter_defers Tryz.func74, Tryz.ntmps74
  go_wp2_with fail
  refine (unhide HP).mono ?_
  rintro e w1 ⟨rfl, hb1⟩
  have hbw : Below w.heap.size w w1 := (tw_below w _).trans (hb1.mono (by omega))
  have hce : w1.heap[w.heap.size]? = some (.cells #[.int .i64 0] 32 (0, 0)) := (hb1.block _ (by omega)).trans (tw_err w _)
  have hsz := lt_of_block hce
  refine leaves_cons (f := 110) (args := #[.pointer (some ⟨w.heap.size, 0, none⟩)]) (by simp) (by simp [go_sem]) ?_
  refine (catch_giveup50 w.heap.size 0 er _ (cell_of_one hce) (free_of_one hce) hsz).mono ?_
  rintro e u' w'' ⟨rfl, rfl, rfl⟩
  have hcell : ((w1.setCell ⟨w.heap.size, 0, none⟩ (.int .i64 er)).alloc (.cells #[.int .i64 er] 151)).cell? ⟨w.heap.size, 0, none⟩ = some (.int .i64 er) :=
    cell_of_one (t := 32) (by rw [Below.heap_alloc _ _ _ (by simpa [World.setCell] using hsz)]; exact one_setCell hce)
  simp [Leaves, settle, results, Tryz.results74, go_sem, hcell]
  exact (hbw.setCell (p := ⟨w.heap.size, 0, none⟩) (Nat.le_refl _) _).alloc (by simp [World.setCell]; omega) _

set_option maxHeartbeats 400000 in
theorem take37_38_ok (ao : Option Addr) (len cap : Nat) (k : Nat) (w : World) (Φ : Value → World → Prop)
    (h1 : ∀ x w j, Φ x w → Φ x (w.drewN j)) (h2 : ∀ x w' u, Φ x w' → Φ x (w'.setCell ⟨w.heap.size, 0, none⟩ u)) (h3 : ∀ x w o, Φ x w → Φ x (w.alloc o))
    (hpart : Calls Tryz.prog 132 #[.pointer (some ⟨w.heap.size + 1, 0, none⟩)] (tw w (.slice ao len cap)) fun e w' => ∃ x, e = .returned x ∧ AtR w' (w.heap.size + 1) (.slice ao len cap) k ∧ Below (w.heap.size + 1) (tw w (.slice ao len cap)) w' ∧ Φ x w') :
    Calls Tryz.prog 74 #[.slice ao len cap, .func (Fn.func 132) #[] #[]] w fun e w' => ∃ x, e = .returned (.tuple #[x, .int .i64 k, .int .i64 0]) ∧ Below w.heap.size w w' ∧ Φ x w' := by
  have hmf : ∀ (fn : Fn) (first cap : Array Value) (w : World), (Instr.makeFunc fn first cap).run Tryz.prog w = .ok (.func fn first cap) w := fun _ _ _ _ => rfl
  have HP := hide hpart
  have H1 := hide h1
  have H2 := hide h2
  have H3 := hide h3
  clear hpart h1 h2 h3
  go_enter_defers Tryz.func74, Tryz.ntmps74
  go_wp2_with fail
  refine (unhide HP).mono ?_
  clear HP
  rintro e w1 ⟨x, rfl, hat, hb1, hΦ⟩
  have HΦ := hide hΦ
  clear hΦ
  have hbw : Below w.heap.size w w1 := (tw_below w _).trans (hb1.mono (by omega))
  have hce : w1.heap[w.heap.size]? = some (.cells #[.int .i64 0] 32 (0, 0)) := (hb1.block _ (by omega)).trans (tw_err w _)
  have hsz := lt_of_block hce
  have c1 := cell_of_one hce
  have c2 := free_of_one hce
  have c3 := hat.c1
  have HC := hide hce
  have HT := hide hat
  clear hce hat
  go_wp2
  go_region
  go_wp2
  refine leaves_cons (f := 110) (args := #[.pointer (some ⟨w.heap.size, 0, none⟩)]) (by simp) (by simp [go_sem]) ?_
  refine (catch_idle50 w.heap.size _).mono ?_
  rintro e u' w'' ⟨rfl, rfl, rfl⟩
  have hcell : ((w1.setCell ⟨w.heap.size, 0, none⟩ (.int .i64 0)).drew.alloc (.cells #[.int .i64 0] 151)).cell? ⟨w.heap.size, 0, none⟩ = some (.int .i64 0) :=
    cell_of_one (t := 32) (by rw [Below.heap_alloc _ _ _ (by simpa [World.setCell] using hsz)]; exact one_setCell HC.out)
  have hbf : Below w.heap.size w ((w1.setCell ⟨w.heap.size, 0, none⟩ (.int .i64 0)).drew.alloc (.cells #[.int .i64 0] 151)) :=
    (hbw.setCell (p := ⟨w.heap.size, 0, none⟩) (Nat.le_refl _) _).drew.alloc (by simp [World.setCell]; omega) _
  have hΦ2 : Φ x ((w1.setCell ⟨w.heap.size, 0, none⟩ (.int .i64 0)).drew.alloc (.cells #[.int .i64 0] 151)) :=
    H3.out _ _ _ (H1.out _ _ 1 (H2.out _ _ _ HΦ.out))
  clear H1 H2 H3 HΦ hmf
  generalize (w1.setCell ⟨w.heap.size, 0, none⟩ (.int .i64 0)).drew.alloc (.cells #[.int .i64 0] 151) = wf at *
  simp [Leaves, settle, results, Tryz.results74, go_sem, hcell]
  exact ⟨hbf, hΦ2⟩

end Go.Proofs.YtggllgimlfchhabGreat

/- Contracts of TakeBlob and of the statements' own live. -/
namespace Go.Proofs.YtggllgimlfchhabGreat
open Go.RowKit
set_option maxRecDepth 100000

theorem tb_no (l : List Int) (h : (tb l).2.2 ≠ 0) : (tb l).1 = [] ∧ (tb l).2.1 = 0 := by
  unfold tb at h ⊢
  by_cases c1 : (tn l).2.2 ≠ 0
  · rw [if_pos c1]; exact ⟨rfl, rfl⟩
  rw [if_neg c1] at h ⊢
  by_cases c2 : (tn l).1 < 0
  · rw [if_pos c2]; exact ⟨rfl, rfl⟩
  rw [if_neg c2] at h ⊢
  by_cases c3 : (l.length : Int) - (tn l).2.1 < (tn l).1
  · rw [if_pos c3]; exact ⟨rfl, rfl⟩
  rw [if_neg c3] at h
  exact absurd rfl h

set_option maxHeartbeats 400000 in
/-- TakeBlob. -/
theorem takeBlob_any (bv : Value) (zs : List Int) (w : World) (hs : Sees w .u8 bv zs) (hby : Byt zs) (hm : zs.length ≤ 140737488355328) :
    Calls Tryz.prog 124 #[bv] w fun e w' => ∃ x, e = .returned (.tuple #[x, .int .i64 (tb zs).2.1, .int .i64 (tb zs).2.2]) ∧ w'.ownsRow w.heap.size 5 1 x (tb zs).1.length (ints .u8 (tb zs).1) ∧ Below w.heap.size w w' := by
  have hst := tw_sees hs
  have hnum := blobR_any (w.heap.size + 1) bv zs 0 (tw w bv) (tw_at w bv) hst hby hm (Nat.zero_le _)
  rw [List.drop_zero, tw_size] at hnum
  obtain ⟨ao, cap, rfl, hlc, hnil, hc⟩ := hs
  have key : Calls Tryz.prog 74 #[.slice ao zs.length cap, .func (Fn.func 132) #[] #[]] w fun e w' => ∃ x, e = .returned (.tuple #[x, .int .i64 (tb zs).2.1, .int .i64 (tb zs).2.2]) ∧ w'.ownsRow w.heap.size 5 1 x (tb zs).1.length (ints .u8 (tb zs).1) ∧ Below w.heap.size w w' := by
    by_cases he : (tb zs).2.2 = 0
    · refine (take37_38_ok ao zs.length cap (tb zs).2.1 w (fun x w' => w'.ownsRow (w.heap.size + 2) 5 1 x (tb zs).1.length (ints .u8 (tb zs).1)) (fun _ _ _ h => h) (fun _ _ _ h => ownsRow_setCell_below h (by show w.heap.size < _; omega) _) (fun _ _ _ h => h.alloc _) (hnum.mono ?_)).mono ?_
      · rintro e w' ⟨h1, h2, _⟩
        obtain ⟨x, h3, h4, h5⟩ := h2 he
        rw [Nat.zero_add] at h4
        exact ⟨x, h3, h4, h1, h5⟩
      · rintro e w' ⟨x, rfl, hb, ho⟩
        exact ⟨x, by rw [he], own_mono ho (by omega), hb⟩
    · refine (take37_38_no ao zs.length cap (tb zs).2.2 w (hnum.mono ?_)).mono ?_
      · rintro e w' ⟨h1, _, h3⟩
        exact ⟨h3 he, h1⟩
      · rintro e w' ⟨rfl, hb⟩
        obtain ⟨e1, e2⟩ := tb_no zs he
        rw [e1, e2]
        exact ⟨_, rfl, World.ownsRow_nil _ _ _ _, hb⟩
  have HK := hide key
  clear key hst hnum hc
  go_enter Tryz.func124, Tryz.ntmps124
  go_wp2_with (go_at_call 74; refine (unhide HK).mono ?_; rintro e w1 ⟨x, rfl, ho, hb⟩)
  go_ret3
  exact ⟨x, rfl, ho, hb⟩

end Go.Proofs.YtggllgimlfchhabGreat
