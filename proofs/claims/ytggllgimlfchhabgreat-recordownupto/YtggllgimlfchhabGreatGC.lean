/- RecordBack: what its walk wants. -/
import Derived.Test.YtggllgimlfchhabGreatJG
import Derived.Test.YtggllgimlfchhabGreatSA
namespace Go.Proofs.YtggllgimlfchhabGreat
open Go.RowKit
set_option maxRecDepth 100000

theorem OwnE.size {base : Nat} {w : World} {cs : Array Value} {e : EntD} (h : OwnE base w cs e) : cs.size = 4 := by obtain ⟨_, rfl, _⟩ := h; rfl
theorem OwnE.one {base : Nat} {w : World} {cs : Array Value} {e : EntD} (h : OwnE base w cs e) : cs.all (·.oneCell') = true := by
  obtain ⟨_, rfl, h1⟩ := h
  obtain ⟨_, _, rfl⟩ := h1.shape
  simp [Value.oneCell']
theorem OwnM.size {base : Nat} {w : World} {cs : Array Value} {m : MsgD} (h : OwnM base w cs m) : cs.size = 17 := by obtain ⟨_, _, _, rfl, _⟩ := h; rfl
theorem OwnM.one {base : Nat} {w : World} {cs : Array Value} {m : MsgD} (h : OwnM base w cs m) : cs.all (·.oneCell') = true := by
  obtain ⟨_, _, _, rfl, h1, h2, h3⟩ := h
  obtain ⟨_, _, rfl⟩ := h1.shape
  obtain ⟨_, _, rfl⟩ := h2.shape
  obtain ⟨_, _, rfl⟩ := own_shape h3
  simp [Value.oneCell']
theorem OwnE.sees2 {base : Nat} {w : World} {cs : Array Value} {e : EntD} (h : OwnE base w cs e) (hr : ReadE e) : SeesE w cs e := by
  obtain ⟨tv, h0, h1⟩ := h
  exact ⟨tv, h0, h1.sees hr.1 hr.2⟩
theorem takeE_read {zs : List Int} (h : Byt zs) : ReadE (takeE zs).1 := by
  unfold takeE
  simp only
  split
  · exact (entry_byt (s := ⟨zs, 0, false⟩) h).2
  · exact ⟨by simp [dE], fun t ht => by cases ht⟩
theorem marB_byt {m : MsgD} (hf : FitM m) (ho : OkM m) : Byt (marB m) := by
  unfold marB
  split
  · unfold sealB
    exact ((putL_byt _).append (msgB_byt hf ho)).append (lowL_byte _ _)
  · exact byt_nil
theorem may_read {x : EntD} (fe : FitE x) (hm : mayE x = true) : ReadE x := by
  have := takeE_read (entB_byt fe)
  rw [take_form fe hm] at this
  exact this
theorem mar_read {m : MsgD} (fm : FitM m) (om : OkM m) (h : marE m = 0) : ReadM m := by
  have := (unm_fit (marB_byt fm om)).2
  rw [unm_mar fm h] at this
  exact this
theorem marB_le (m : MsgD) : (marB m).length ≤ 140737488355328 := by
  unfold marB
  split
  · rename_i h
    have hl : (msgB m).length ≤ 1048576 := by
      unfold marE at h
      split at h
      · split at h
        · cases h
        · omega
      · cases h
    rw [sealB_length]
    have hw : wid (mag ((msgB m).length : Int)) ≤ 8 := wid_le _
    omega
  · simp
theorem mar_long {m : MsgD} (h : marE m = 3) : mayMsg m = true := by
  cases c : mayMsg m with
  | true => rfl
  | false => simp [marE, c] at h
theorem mar_not {m : MsgD} (h : marE m = 40) : mayMsg m = false := by
  cases c : mayMsg m with
  | false => rfl
  | true =>
    simp only [marE, c, if_true] at h
    split at h <;> cases h
end Go.Proofs.YtggllgimlfchhabGreat
