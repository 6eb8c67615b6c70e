/- take of bytes; the reader's blob; TakeBlob. -/
import Derived.Test.YthdghnppledakaaW8
namespace Go.Proofs.Ythdghnppledakaa
open Go.RowKit

set_option maxHeartbeats 400000 in
theorem catch_giveup50 (b : Nat) (x er : Int) (w : World) (hc : w.cell? ⟨b, 0, none⟩ = some (.int .i64 x)) (hz : w.frozen? ⟨b, 0, none⟩ = false) (hp : b < w.heap.size) :
    CallsD Try.prog 50 #[.pointer (some ⟨b, 0, none⟩)] (.panicking [{ v := .iface 70 (.agg #[.int .i64 er]), recovered := false }]) w fun e u' w' =>
      e = .returned (.tuple #[]) ∧ u' = .panicking [{ v := .iface 70 (.agg #[.int .i64 er]), recovered := true }] ∧ w' = (w.setCell ⟨b, 0, none⟩ (.int .i64 er)).alloc (.cells #[.int .i64 er] 70) := by
  have hta := ta_yes er
  have hne : ¬ b = w.heap.size := by omega
  refine callsD_of_wpS Try.func50 rfl fun c₀ cs hu => ?_
  apply wpS_seq
  apply wpS_region
  simp [wpOpsS, go_sem, recoverD, hu, Try.ntmps50, Exit.thenS]
  refine wpS_of_wp ?_
  simp [Array.replicate]
  go_wp2
  exact ⟨rfl, _, rfl, _, by simp [results, Try.results50], rfl, rfl, rfl⟩

set_option maxHeartbeats 400000 in
theorem catch_idle50 (b : Nat) (w : World) :
    CallsD Try.prog 50 #[.pointer (some ⟨b, 0, none⟩)] .returning w fun e u' w' =>
      e = .returned (.tuple #[]) ∧ u' = .returning ∧ w' = w.alloc (.cells #[.int .i64 0] 70) := by
  have hta := ta_no
  refine callsD_of_wpS Try.func50 rfl fun c₀ cs hu => ?_
  apply wpS_seq
  apply wpS_region
  simp [wpOpsS, go_sem, recoverD, hu, Try.ntmps50, Exit.thenS]
  refine wpS_of_wp ?_
  simp [Array.replicate]
  go_wp2
  refine ⟨rfl, .returning, by cases c₀; simp_all, _, by simp [results, Try.results50], rfl, rfl, rfl⟩

set_option maxHeartbeats 400000 in
theorem take37_38_no (ao : Option Addr) (len cap : Nat) (er : Int) (w : World)
    (hpart : Calls Try.prog 38 #[.pointer (some ⟨w.heap.size + 1, 0, none⟩)] (tw w (.slice ao len cap)) fun e w' => e = GiveUp er ∧ Below (w.heap.size + 1) (tw w (.slice ao len cap)) w') :
    Calls Try.prog 37 #[.slice ao len cap, .func (Fn.func 38) #[] #[]] w fun e w' => e = .returned (.tuple #[.slice none 0 0, .int .i64 0, .int .i64 er]) ∧ Below w.heap.size w w' := by
  have hmf : ∀ (fn : Fn) (first cap : Array Value) (w : World), (Instr.makeFunc fn first cap).run Try.prog w = .ok (.func fn first cap) w := fun _ _ _ _ => rfl
  have HP := hide hpart
  clear hpart
  go_enter_defers Try.func37, Try.ntmps37
  go_wp2_with fail
  refine (unhide HP).mono ?_
  rintro e w1 ⟨rfl, hb1⟩
  have hbw : Below w.heap.size w w1 := (tw_below w _).trans (hb1.mono (by omega))
  have hce : w1.heap[w.heap.size]? = some (.cells #[.int .i64 0] 24 (0, 0)) := (hb1.block _ (by omega)).trans (tw_err w _)
  have hsz := lt_of_block hce
  refine leaves_cons (f := 50) (args := #[.pointer (some ⟨w.heap.size, 0, none⟩)]) (by simp) (by simp [go_sem]) ?_
  refine (catch_giveup50 w.heap.size 0 er _ (cell_of_one hce) (free_of_one hce) hsz).mono ?_
  rintro e u' w'' ⟨rfl, rfl, rfl⟩
  have hcell : ((w1.setCell ⟨w.heap.size, 0, none⟩ (.int .i64 er)).alloc (.cells #[.int .i64 er] 70)).cell? ⟨w.heap.size, 0, none⟩ = some (.int .i64 er) :=
    cell_of_one (t := 24) (by rw [Below.heap_alloc _ _ _ (by simpa [World.setCell] using hsz)]; exact one_setCell hce)
  simp [Leaves, settle, results, Try.results37, go_sem, hcell]
  exact (hbw.setCell (p := ⟨w.heap.size, 0, none⟩) (Nat.le_refl _) _).alloc (by simp [World.setCell]; omega) _

set_option maxHeartbeats 400000 in
theorem take37_38_ok (ao : Option Addr) (len cap : Nat) (k : Nat) (w : World) (Φ : Value → World → Prop)
    (h1 : ∀ x w j, Φ x w → Φ x (w.drewN j)) (h2 : ∀ x w' u, Φ x w' → Φ x (w'.setCell ⟨w.heap.size, 0, none⟩ u)) (h3 : ∀ x w o, Φ x w → Φ x (w.alloc o))
    (hpart : Calls Try.prog 38 #[.pointer (some ⟨w.heap.size + 1, 0, none⟩)] (tw w (.slice ao len cap)) fun e w' => ∃ x, e = .returned x ∧ AtR w' (w.heap.size + 1) (.slice ao len cap) k ∧ Below (w.heap.size + 1) (tw w (.slice ao len cap)) w' ∧ Φ x w') :
    Calls Try.prog 37 #[.slice ao len cap, .func (Fn.func 38) #[] #[]] w fun e w' => ∃ x, e = .returned (.tuple #[x, .int .i64 k, .int .i64 0]) ∧ Below w.heap.size w w' ∧ Φ x w' := by
  have hmf : ∀ (fn : Fn) (first cap : Array Value) (w : World), (Instr.makeFunc fn first cap).run Try.prog w = .ok (.func fn first cap) w := fun _ _ _ _ => rfl
  have HP := hide hpart
  have H1 := hide h1
  have H2 := hide h2
  have H3 := hide h3
  clear hpart h1 h2 h3
  go_enter_defers Try.func37, Try.ntmps37
  go_wp2_with fail
  refine (unhide HP).mono ?_
  clear HP
  rintro e w1 ⟨x, rfl, hat, hb1, hΦ⟩
  have HΦ := hide hΦ
  clear hΦ
  have hbw : Below w.heap.size w w1 := (tw_below w _).trans (hb1.mono (by omega))
  have hce : w1.heap[w.heap.size]? = some (.cells #[.int .i64 0] 24 (0, 0)) := (hb1.block _ (by omega)).trans (tw_err w _)
  have hsz := lt_of_block hce
  have c1 := cell_of_one hce
  have c2 := free_of_one hce
  have c3 := hat.c1
  have HC := hide hce
  have HT := hide hat
  clear hce hat
  go_wp2
  go_region
  go_wp2
  refine leaves_cons (f := 50) (args := #[.pointer (some ⟨w.heap.size, 0, none⟩)]) (by simp) (by simp [go_sem]) ?_
  refine (catch_idle50 w.heap.size _).mono ?_
  rintro e u' w'' ⟨rfl, rfl, rfl⟩
  have hcell : ((w1.setCell ⟨w.heap.size, 0, none⟩ (.int .i64 0)).drew.alloc (.cells #[.int .i64 0] 70)).cell? ⟨w.heap.size, 0, none⟩ = some (.int .i64 0) :=
    cell_of_one (t := 24) (by rw [Below.heap_alloc _ _ _ (by simpa [World.setCell] using hsz)]; exact one_setCell HC.out)
  have hbf : Below w.heap.size w ((w1.setCell ⟨w.heap.size, 0, none⟩ (.int .i64 0)).drew.alloc (.cells #[.int .i64 0] 70)) :=
    (hbw.setCell (p := ⟨w.heap.size, 0, none⟩) (Nat.le_refl _) _).drew.alloc (by simp [World.setCell]; omega) _
  have hΦ2 : Φ x ((w1.setCell ⟨w.heap.size, 0, none⟩ (.int .i64 0)).drew.alloc (.cells #[.int .i64 0] 70)) :=
    H3.out _ _ _ (H1.out _ _ 1 (H2.out _ _ _ HΦ.out))
  clear H1 H2 H3 HΦ hmf
  generalize (w1.setCell ⟨w.heap.size, 0, none⟩ (.int .i64 0)).drew.alloc (.cells #[.int .i64 0] 70) = wf at *
  simp [Leaves, settle, results, Try.results37, go_sem, hcell]
  exact ⟨hbf, hΦ2⟩

end Go.Proofs.Ythdghnppledakaa
