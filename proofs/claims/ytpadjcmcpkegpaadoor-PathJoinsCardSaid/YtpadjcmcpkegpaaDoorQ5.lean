/-
  The program's paths: Below.
-/
import Derived.Test.YtpadjcmcpkegpaaDoorQ4
namespace Go.Proofs.YtpadjcmcpkegpaaDoor
open Go.RowKit

set_option maxRecDepth 100000 in
set_option maxHeartbeats 2000000 in
theorem pxBelow_any (p q : List UInt8) (w : World) : Calls Tryd.prog 20 #[txt p, txt q] w (One (.bool (belowB p q)) w) := by
  go_enter Tryd.func20, Tryd.ntmps20
  go_wp2_with fail
  refine (pxRight_any p w).mono ?_
  rintro e w1 ⟨rfl, hb⟩
  have hs1 := hb.size
  have HB := Lib.hid hb
  clear hb
  cases hR : rightB p
  · have HF := Lib.hid (belowB_not p q (by rw [hR]; rfl))
    clear hR
    go_wp2
    go_ret
    exact ⟨by rw [HF.out]; rfl, HB.out⟩
  · have HR := Lib.hid hR
    clear hR
    go_wp2_with fail
    refine (pxRight_any q w1).mono ?_
    rintro e w2 ⟨rfl, hb⟩
    have HB2 := Lib.hid (HB.out.trans (hb.mono hs1))
    clear hb
    cases hR2 : rightB q
    · have HF := Lib.hid (belowB_not p q (by rw [hR2]; simp))
      clear hR2
      go_wp2
      go_ret
      exact ⟨by rw [HF.out]; rfl, HB2.out⟩
    · have HE := Lib.hid ((belowB_yes p q HR.out hR2).trans (below_text p q HR.out hR2))
      have HL : Hid (p.length ≤ 1000000) := by
        show _ ≤ _
        have := (rightB_len p HR.out).1
        omega
      clear hR2 HR
      by_cases hpq : p = q
      · have hb : (p == q) = true := by simpa using hpq
        have HF : Hid (belowB p q = false) := by
          show _ = _
          rw [HE.out, hb]; rfl
        clear hpq
        go_wp2
        go_ret
        exact ⟨by rw [HF.out]; rfl, HB2.out⟩
      · have hb : (p == q) = false := txt_ne p q hpq
        have HF : Hid (belowB p q = Lib.hasPrefix q (undL p)) := by
          show _ = _
          rw [HE.out, hb]; rfl
        clear hpq HE
        go_wp2_with fail
        refine (under_any p w2 HL.out).mono ?_
        rintro e w' ⟨rfl, rfl⟩
        go_wp2_with fail
        refine (Tryd.strings_HasPrefix ⟨q.toArray⟩ ⟨(undL p).toArray⟩ w').mono ?_
        rintro e w3 ⟨rfl, rfl⟩
        rw [show Lib.hasPrefix (⟨q.toArray⟩ : ByteArray).data.toList (⟨(undL p).toArray⟩ : ByteArray).data.toList = belowB p q from HF.out.symm]
        go_wp2
        go_ret
        exact ⟨rfl, HB2.out⟩
end Go.Proofs.YtpadjcmcpkegpaaDoor
