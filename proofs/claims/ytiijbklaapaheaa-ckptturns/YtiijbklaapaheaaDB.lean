/- A checkpoint's bytes, whatever stands behind them, say the checkpoint. -/
import Derived.Test.YtiijbklaapaheaaBackM
import Derived.Test.YtiijbklaapaheaaWholeM
import Derived.Test.YtiijbklaapaheaaCC
namespace Go.Proofs.Ytiijbklaapaheaa
open Go.RowKit
set_option maxRecDepth 100000

theorem dec_back {number slot last : Int} {ds : List Int} (r : List Int) (hf : faultE number slot last ds.length = 0) (hl : (bodyB number slot last ds).length ≤ 1048576) : dec (ckB number slot last ds ++ r) = ⟨number, slot, last, ds, 0⟩ := by
  obtain ⟨hd, hI⟩ := faultE_ok hf
  have hu : tu (ckB number slot last ds ++ r) = (bodyB number slot last ds, (sealB (bodyB number slot last ds)).length, 0) := tu_whole _ _ hl
  have hn : nrun (bodyB number slot last ds) 3 = ([number, slot, last], sizeL [number, slot, last], 0) := by
    unfold bodyB
    rw [List.append_assoc]
    exact nrun_put [number, slot, last] _ hI 3 (by simp)
  have hdr : (bodyB number slot last ds).drop (sizeL [number, slot, last]) = putL [(ds.length : Int)] ++ ds := by
    unfold bodyB
    rw [List.append_assoc, List.drop_left' (putL_length _)]
  have hb : tb (putL [(ds.length : Int)] ++ ds) = (ds, sizeL [(ds.length : Int)] + ds.length, 0) := by
    have := tb_blob ds [] (by omega)
    rwa [List.append_nil] at this
  unfold dec
  rw [hu]
  simp only
  rw [hn]
  simp only
  rw [hdr, hb]
  simp only [List.getD_cons_zero, List.getD_cons_succ]
  rw [if_neg (by simp), if_neg (by simp), if_neg (by simp [putL_length]), if_neg (not_not_intro hf)]
end Go.Proofs.Ytiijbklaapaheaa
