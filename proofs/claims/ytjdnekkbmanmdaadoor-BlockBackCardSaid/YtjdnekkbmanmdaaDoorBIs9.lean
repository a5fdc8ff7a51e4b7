/-
  The law's own question: an error of a kind, at a place?
-/
import Derived.Test.YtjdnekkbmanmdaaDoorBOpen9
namespace Go.Proofs.YtjdnekkbmanmdaaDoor
open Go.RowKit Go.Sort
set_option maxRecDepth 8000
theorem blkE_kind (k at_ : Int) : (blkE k at_).kind = some k := rfl
theorem blkE_place (k at_ : Int) : (blkE k at_).place = some (k, at_) := rfl
theorem blkE_has (k at_ : Int) : (blkE k at_).has (.sort k) = true := by simp [blkE, Er.has, Er.is]
set_option maxHeartbeats 2000000 in
theorem t_isB (u : Value) (k at_ : Int) (w : World) (he : IsEr w (blkE k at_) u) (hy : AsS.Ty w) : Calls Tryd.prog 7 #[u, .int .i64 k, .int .i64 at_] w fun e w' => e = .returned (.bool true) ∧ Below w.heap.size w w' := by
  have HE := Lib.hid he
  have K := Lib.hid (fun w he hy => t_kind (blkE k at_) u w he hy)
  have O := Lib.hid (fun w he hy => t_off (blkE k at_) u w he hy)
  have I := Lib.hid (fun w he => t_faultIs (blkE k at_) u k w he)
  rw [blkE_kind] at K
  rw [blkE_place] at O
  rw [blkE_has] at I
  unfold kindV at K
  unfold offV at O
  simp only at K O
  have HY := Lib.hid hy
  obtain ⟨b, rfl, _⟩ := blkE_note he
  clear he hy
  go_enter Tryd.func7, Tryd.ntmps7
  go_upto_region 2 with (go_at_call 16; refine (K.out _ HE.out HY.out).mono ?_; rintro e w1 ⟨rfl, hb1⟩)
  go_upto_region 3 with (go_at_call 17; refine (O.out _ (IsEr.on hb1 HE.out) (HY.out.on hb1)).mono ?_; rintro e w2 ⟨rfl, hb2⟩)
  have hb := hb1.trans (hb2.mono hb1.size)
  go_wp2_with (go_at_call 18; refine (I.out _ (IsEr.on hb HE.out)).mono ?_; rintro e w3 ⟨rfl, hb3⟩)
  go_ret
  exact ⟨rfl, hb.trans (hb3.mono hb.size)⟩
end Go.Proofs.YtjdnekkbmanmdaaDoor
