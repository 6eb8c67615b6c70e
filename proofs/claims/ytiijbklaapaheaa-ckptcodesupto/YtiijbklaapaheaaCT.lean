/- No page shows more than 256 bytes, whatever is done. -/
import Derived.Test.YtiijbklaapaheaaCP
namespace Go.Proofs.Ytiijbklaapaheaa
open Go.RowKit

def Sm (F : Fl) : Prop := ∀ i j, (F.bs i j).size ≤ 256
theorem Sm.hP {F : Fl} (h : Sm F) (i j : Int) : (F.readB i j).length ≤ 256 := by
  unfold Fl.readB
  split
  · rw [bytesOf_length]; exact h _ _
  · exact Nat.zero_le _
theorem sm_blank (n : Nat) : Sm (Fl.blank n) := fun _ _ => Nat.zero_le _
theorem Sm.put {F : Fl} (h : Sm F) (i j : Nat) (s : Int) (b : ByteArray) (hb : b.size ≤ 256) : Sm (F.put i j s b) := by
  intro a c
  show (if a = i ∧ c = j then b else F.bs a c).size ≤ 256
  split
  · exact hb
  · exact h a c
theorem Sm.fill {F : Fl} (h : Sm F) (i k : Nat) (s : Int) (b : ByteArray) (hb : b.size ≤ 256) : Sm (F.fill i k s b) := by
  intro a c
  unfold Fl.fill
  show (if _ then b else F.bs a c).size ≤ 256
  split
  · exact hb
  · exact h a c
theorem Sm.burnt {F : Fl} (h : Sm F) : Sm F.burnt := by unfold Fl.burnt; split <;> exact h
theorem Sm.changed {F : Fl} (h : Sm F) {act : Fl → Int → ByteArray → Fl} (ha : ∀ G s b, Sm G → b.size ≤ 256 → Sm (act G s b)) (s : Int) (b : ByteArray) (hb : b.size ≤ 256) : Sm (F.changed act s b) := by
  unfold Fl.changed
  split
  · show Sm (Fl.fall _)
    split
    · exact ha _ _ _ h.burnt hb
    · split
      · exact ha _ _ _ h.burnt (Nat.zero_le _)
      · exact h.burnt
  · exact ha _ _ _ h.burnt hb
theorem strOf_size (l : List Int) : (strOf l).size = l.length := by unfold strOf; simp [ByteArray.size]
theorem pageL_len {zs : List Int} (h : zs.length ≤ 256) : (pageL zs).length = 256 := by unfold pageL; simp; omega
theorem Sm.prog {F : Fl} (h : Sm F) (i j : Int) (zs : List Int) : Sm (F.prog i j zs).2 := by
  unfold Fl.prog
  split
  · exact h
  split
  · exact h
  split
  · exact h
  split
  · exact h
  · rename_i hl _
    exact h.changed (fun G s b hG hb => hG.put _ _ s b hb) _ _ (by rw [strOf_size, pageL_len (by omega)]; exact Nat.le_refl _)
theorem Sm.erase {F : Fl} (h : Sm F) (i : Int) : Sm (F.erase i).2 := by
  unfold Fl.erase
  split
  · exact h
  split
  · exact h
  · exact h.changed (fun G s b hG hb => by show Sm (Fl.setWear _ _ _); exact hG.fill _ _ s b hb) _ _ (Nat.zero_le _)
theorem Sm.clr (k : Nat) : ∀ {F : Fl} (_ : Sm F) (b : Nat), Sm (clr F b k).2 := by
  induction k with
  | zero => intro F h b; exact h
  | succ k ih =>
    intro F h b
    rw [clr_succ]
    split
    · exact ih h _
    · split
      · exact h.erase _
      · exact ih (h.erase _) _
theorem Sm.wrt (cs : List (List Int)) : ∀ {F : Fl} (_ : Sm F) (f i : Nat), Sm (wrt F f i cs).2 := by
  induction cs with
  | nil => intro F h f i; exact h
  | cons c cs ih =>
    intro F h f i
    rw [wrt_cons]
    split
    · exact h.prog _ _ _
    · exact ih (h.prog _ _ _) _ _
theorem Sm.wrtH {F : Fl} (h : Sm F) (f n : Nat) (zs : List Int) : Sm (wrtH F f n zs).2 := by
  unfold Proofs.Ytiijbklaapaheaa.wrtH
  split
  · exact Sm.clr n h f
  · exact Sm.wrt _ (Sm.clr n h f) _ _
theorem Sm.sav {F : Fl} (h : Sm F) (f n slot last : Int) (ds : List Int) : Sm (sav F f n slot last ds).2 := by
  unfold Proofs.Ytiijbklaapaheaa.sav savW
  (repeat' split) <;> first | exact h | exact h.wrtH _ _ _
theorem wrt_cnt (cs : List (List Int)) : ∀ (F : Fl) (f i : Nat), 0 ≤ F.cnt → F.cnt ≤ 9223372036854775807 → 0 ≤ (wrt F f i cs).2.cnt ∧ (wrt F f i cs).2.cnt ≤ 9223372036854775807 := by
  induction cs with
  | nil => intro F f i h0 h1; exact ⟨h0, h1⟩
  | cons c cs ih =>
    intro F f i h0 h1
    have hp := prog_cnt F ((f + i / 16 : Nat) : Int) ((i % 16 : Nat) : Int) c h0 h1
    rw [wrt_cons]
    split
    · exact hp
    · exact ih _ _ _ hp.1 hp.2
theorem sav_cnt (F : Fl) (f n slot last : Int) (ds : List Int) (h0 : 0 ≤ F.cnt) (h1 : F.cnt ≤ 9223372036854775807) : 0 ≤ (sav F f n slot last ds).2.cnt ∧ (sav F f n slot last ds).2.cnt ≤ 9223372036854775807 := by
  unfold sav savW wrtH
  have hc := fun b k => clr_cnt k F b h0 h1
  (repeat' split) <;> first | exact ⟨h0, h1⟩ | exact ⟨(hc _ _).1, (hc _ _).2.1⟩ | exact wrt_cnt _ _ _ _ (hc _ _).1 (hc _ _).2.1

end Go.Proofs.Ytiijbklaapaheaa
