/-
  Texts H1 R5 KU.
-/
import Derived.Test.YtdihngkdhanhkaaGreatDoorV01
import Derived.Test.YtdihngkdhanhkaaGreatDoorV02
import Derived.Test.YtdihngkdhanhkaaGreatDoorV03
import Derived.Test.YtdihngkdhanhkaaGreatDoorV04
import Derived.Test.YtdihngkdhanhkaaGreatDoorV05
import Derived.Test.YtdihngkdhanhkaaGreatDoorV06
import Derived.Test.YtdihngkdhanhkaaGreatDoorV07
import Derived.Test.YtdihngkdhanhkaaGreatDoorV08
import Derived.Test.YtdihngkdhanhkaaGreatDoorV09
import Derived.Test.YtdihngkdhanhkaaGreatDoorV10
import Derived.Test.YtdihngkdhanhkaaGreatDoorV11
import Derived.Test.YtdihngkdhanhkaaGreatDoorV12
import Derived.Test.YtdihngkdhanhkaaGreatDoorV13
import Derived.Test.YtdihngkdhanhkaaGreatDoorV14
import Derived.Test.YtdihngkdhanhkaaGreatDoorV15
import Derived.Test.YtdihngkdhanhkaaGreatDoorV16
import Derived.Test.YtdihngkdhanhkaaGreatDoorV17
import Derived.Test.YtdihngkdhanhkaaGreatDoorV18
import Derived.Test.YtdihngkdhanhkaaGreatDoorV19
import Derived.Test.YtdihngkdhanhkaaGreatDoorV20
import Derived.Test.YtdihngkdhanhkaaGreatDoorV21
import Derived.Test.YtdihngkdhanhkaaGreatDoorV22
import Derived.Test.YtdihngkdhanhkaaGreatDoorV23
import Derived.Test.YtdihngkdhanhkaaGreatDoorV24
import Derived.Test.YtdihngkdhanhkaaGreatDoorV25
import Derived.Test.YtdihngkdhanhkaaGreatDoorV26
import Derived.Test.YtdihngkdhanhkaaGreatDoorV27
import Derived.Test.YtdihngkdhanhkaaGreatDoorV28
import Derived.Test.YtdihngkdhanhkaaGreatDoorV29
import Derived.Test.YtdihngkdhanhkaaGreatDoorV30
import Derived.Test.YtdihngkdhanhkaaGreatDoorV31
import Derived.Test.YtdihngkdhanhkaaGreatDoorV32
import Derived.Test.YtdihngkdhanhkaaGreatDoorV33
import Derived.Test.YtdihngkdhanhkaaGreatDoorV34
import Derived.Test.YtdihngkdhanhkaaGreatDoorV35
import Derived.Test.YtdihngkdhanhkaaGreatDoorV36
import Derived.Test.YtdihngkdhanhkaaGreatDoorV37
import Derived.Test.YtdihngkdhanhkaaGreatDoorV38
import Derived.Test.YtdihngkdhanhkaaGreatDoorV39
import Derived.Test.YtdihngkdhanhkaaGreatDoorV40
import Derived.Test.YtdihngkdhanhkaaGreatDoorV41
import Derived.Test.YtdihngkdhanhkaaGreatDoorV42
import Derived.Test.YtdihngkdhanhkaaGreatDoorV43
import Derived.Test.YtdihngkdhanhkaaGreatDoorV44
import Derived.Test.YtdihngkdhanhkaaGreatDoorV46
import Derived.Laws.StructEq
import Derived.Lib.Strings
namespace Go.Proofs.YtdihngkdhanhkaaGreatDoor
set_option maxRecDepth 100000
set_option maxHeartbeats 16000000
theorem getE_or (l : List Nd) (q : List UInt8) : getE l q = 0 ∨ getE l q = 6 ∨ getE l q = 13 := by
 unfold getE
 cases rightB q <;> cases hasN l q <;> simp
open Go.RowKit
theorem RdE.ofBlks {α : Type} {E : RowK α} {w : World} {g : Nat} {l : List α} {e : TypeId} (h : Blk w g (rowsE E l) e) (hl : l.length ≤ maxLen) : RdE E (g + 1) w (.slice (some ⟨g, 0, none⟩) l.length l.length) l := by
 refine ⟨some ⟨g, 0, none⟩, l.length, rfl, Nat.le_refl _, hl, fun h => (by cases h), fun a ha => ?_⟩
 cases ha
 refine ⟨fun _ => Nat.lt_succ_self _, fun j u hu => ?_⟩
 have hadd : (⟨g, 0, none⟩ : Addr).add j = ⟨g, j, none⟩ := by unfold Addr.add; split <;> simp_all
 rw [hadd]
 exact (h.cell j).trans hu
def setO (c : Int) (p v : List UInt8) : Or := (c, 1, 3, p, v, -1, 0, 0)
def getO (c q : Int) (p : List UInt8) : Or := (c, q, 2, p, [], 0, 0, 0)
def delO (c : Int) (p : List UInt8) : Or := (c, 3, 4, p, [], -1, 0, 0)
theorem may_set (c : Int) (p v : List UInt8) (h0 : 0 ≤ c) (h1 : c ≤ 1000) (hp : p.length ≤ 100) (hv : v.length ≤ 1000) : mayO (setO c p v) = true := by
 simp [mayO, sizedO, usedO, setO, usesT, oC, oQ, oK, oP, oV, oR, oS, oT, h0, h1, hp, hv]
theorem may_get (c q : Int) (p : List UInt8) (h0 : 0 ≤ c) (h1 : c ≤ 1000) (hp : p.length ≤ 100) (hq : 1 ≤ q) (hq2 : q ≤ 1000000000) : mayO (getO c q p) = true := by
 simp [mayO, sizedO, usedO, getO, usesT, oC, oQ, oK, oP, oV, oR, oS, oT, h0, h1, hp, hq, hq2]
theorem may_del (c : Int) (p : List UInt8) (h0 : 0 ≤ c) (h1 : c ≤ 1000) (hp : p.length ≤ 100) : mayO (delO c p) = true := by
 simp [mayO, sizedO, usedO, delO, usesT, oC, oQ, oK, oP, oV, oR, oS, oT, h0, h1, hp]
theorem done_set (r : Rm) (c : Int) (p v : List UInt8) : doneR r (setO c p v) = ((setS (mN r) p v (-1), mT r, mS r, mW r, mL r),
 rep (setE (mN r) p v (-1)) [] (if setE (mN r) p v (-1) = 0 then nR (getS (setS (mN r) p v (-1)) p) else 0) [], if setE (mN r) p v (-1) = 0 then [(2, p)] else []) := by
 unfold doneR
 rw [if_neg (show ¬ oK (setO c p v) = 1 from by show ¬ (3 : Int) = 1; decide), if_neg (show ¬ oK (setO c p v) = 2 from by show ¬ (3 : Int) = 2; decide), if_pos (show oK (setO c p v) = 3 from rfl)]
 rfl
theorem done_get (r : Rm) (c q : Int) (p : List UInt8) : doneR r (getO c q p) = (r, rep (getE (mN r) p) (nV (getS (mN r) p)) (nR (getS (mN r) p)) [], []) := by
 unfold doneR
 rw [if_neg (show ¬ oK (getO c q p) = 1 from by show ¬ (2 : Int) = 1; decide), if_pos (show oK (getO c q p) = 2 from rfl)]
 rfl
theorem done_del (r : Rm) (c : Int) (p : List UInt8) : doneR r (delO c p) = ((delS (mN r) p (-1), mT r, mS r, mW r, mL r), rep (delE (mN r) p (-1)) [] 0 [], if delE (mN r) p (-1) = 0 then [(3, p)] else []) := by
 unfold doneR
 rw [if_neg (show ¬ oK (delO c p) = 1 from by show ¬ (4 : Int) = 1; decide), if_neg (show ¬ oK (delO c p) = 2 from by show ¬ (4 : Int) = 2; decide), if_neg (show ¬ oK (delO c p) = 3 from by show ¬ (4 : Int) = 3; decide), if_pos (show oK (delO c p) = 4 from rfl)]
 rfl
theorem apply_new (r : Rm) (o : Or) (hr : RightR r) (h : mayO o = true) (h1 : (lastR (mL r) (oC o)).2 = true → pQ (lastR (mL r) (oC o)).1 < oQ o) (h2 : (lastR (mL r) (oC o)).2 = false → (mL r).length < 50) :
 applyR r o = takenR r o ∧ RightR (applyR r o).1 ∧ lastR (mL (applyR r o).1) (oC o) = (ofR o (doneR r o).2.1, true) := by
 have e : applyR r o = takenR r o := by
  unfold applyR
  rw [if_neg (by rw [h]; simp), if_neg (fun x => by have := h1 x.1; omega), if_neg (fun x => by have := h1 x.1; omega), if_neg (fun x => by have := h2 x.1; omega)]
 refine ⟨e, right_apply r o hr, ?_⟩
 rw [e]
 show lastR (seenR (ofR o (doneR r o).2.1) false (mL r)) (oC o) = _
 rw [seenR_last _ _ hr.asc, if_pos (show oC o = pC (ofR o (doneR r o).2.1) from rfl)]
def fourO (c : Int) (p v : List UInt8) : List Or := [setO c p v, getO c 2 p, delO c p, getO c 4 p]
theorem reads_four (r : Rm) (c : Int) (p v : List UInt8) (hr : RightR r) (h0 : 0 ≤ c) (h1 : c ≤ 1000) (hp : p.length ≤ 100) (hv : v.length ≤ 1000) (hn : (lastR (mL r) c).2 = false) (hl : (mL r).length < 50) :
 ∃ (x : Rm) (a0 a1 a2 a3 : Rp) (ev : List Ev), foldR r (fourO c p v) = (x, [a0, a1, a2, a3], ev) ∧
   (pE a0 = 9 → pE a1 = 0 ∧ pR a1 = 1000000000) ∧
   (pE a0 ≠ 9 → pE a0 ≠ 0 → pE a1 = pE a0 ∧ pE a3 = pE a0 ∧ (mN x).length = (mN r).length) ∧
   (pE a0 = 0 → pE a1 = 0 ∧ pV a1 = v ∧ pR a1 = pR a0 ∧ (pE a2 = 0 → pE a3 = 6) ∧ (pE a2 ≠ 0 → pE a3 = 0 ∧ pV a3 = v)) := by
 obtain ⟨e1, R1, L1⟩ := apply_new r (setO c p v) hr (may_set c p v h0 h1 hp hv) (fun h => by rw [show oC (setO c p v) = c from rfl, hn] at h; cases h) (fun _ => hl)
 obtain ⟨r1, g1⟩ : ∃ q, (applyR r (setO c p v)).1 = q := ⟨_, rfl⟩
 rw [g1] at R1 L1
 have n1 : mN r1 = setS (mN r) p v (-1) := by rw [← g1, e1]; show mN (doneR r (setO c p v)).1 = _; rw [done_set]
 have a1 : (applyR r (setO c p v)).2.1 = ofR (setO c p v) (doneR r (setO c p v)).2.1 := by rw [e1]; rfl
 rw [done_set] at a1
 have q1 : lastR (mL r1) c = (ofR (setO c p v) (doneR r (setO c p v)).2.1, true) := L1
 obtain ⟨e2, R2, L2⟩ := apply_new r1 (getO c 2 p) R1 (may_get c 2 p h0 h1 hp (by omega) (by omega)) (fun _ => by rw [show oC (getO c 2 p) = c from rfl, q1]; show (1 : Int) < 2; omega) (fun h => by rw [show oC (getO c 2 p) = c from rfl, q1] at h; cases h)
 obtain ⟨r2, g2⟩ : ∃ q, (applyR r1 (getO c 2 p)).1 = q := ⟨_, rfl⟩
 rw [g2] at R2 L2
 have n2 : mN r2 = mN r1 := by rw [← g2, e2]; show mN (doneR r1 (getO c 2 p)).1 = _; rw [done_get]
 have a2 : (applyR r1 (getO c 2 p)).2.1 = ofR (getO c 2 p) (doneR r1 (getO c 2 p)).2.1 := by rw [e2]; rfl
 rw [done_get] at a2
 have q2 : lastR (mL r2) c = (ofR (getO c 2 p) (doneR r1 (getO c 2 p)).2.1, true) := L2
 obtain ⟨e3, R3, L3⟩ := apply_new r2 (delO c p) R2 (may_del c p h0 h1 hp) (fun _ => by rw [show oC (delO c p) = c from rfl, q2]; show (2 : Int) < 3; omega) (fun h => by rw [show oC (delO c p) = c from rfl, q2] at h; cases h)
 obtain ⟨r3, g3⟩ : ∃ q, (applyR r2 (delO c p)).1 = q := ⟨_, rfl⟩
 rw [g3] at R3 L3
 have n3 : mN r3 = delS (mN r2) p (-1) := by rw [← g3, e3]; show mN (doneR r2 (delO c p)).1 = _; rw [done_del]
 have a3 : (applyR r2 (delO c p)).2.1 = ofR (delO c p) (doneR r2 (delO c p)).2.1 := by rw [e3]; rfl
 rw [done_del] at a3
 have q3 : lastR (mL r3) c = (ofR (delO c p) (doneR r2 (delO c p)).2.1, true) := L3
 obtain ⟨e4, R4, L4⟩ := apply_new r3 (getO c 4 p) R3 (may_get c 4 p h0 h1 hp (by omega) (by omega)) (fun _ => by rw [show oC (getO c 4 p) = c from rfl, q3]; show (3 : Int) < 4; omega) (fun h => by rw [show oC (getO c 4 p) = c from rfl, q3] at h; cases h)
 obtain ⟨r4, g4⟩ : ∃ q, (applyR r3 (getO c 4 p)).1 = q := ⟨_, rfl⟩
 have n4 : mN r4 = mN r3 := by rw [← g4, e4]; show mN (doneR r3 (getO c 4 p)).1 = _; rw [done_get]
 have a4 : (applyR r3 (getO c 4 p)).2.1 = ofR (getO c 4 p) (doneR r3 (getO c 4 p)).2.1 := by rw [e4]; rfl
 rw [done_get] at a4
 clear e1 e2 e3 e4 q1 q2 q3 L1 L2 L3 L4
 refine ⟨r4, (applyR r (setO c p v)).2.1, (applyR r1 (getO c 2 p)).2.1, (applyR r2 (delO c p)).2.1, (applyR r3 (getO c 4 p)).2.1, (foldR r (fourO c p v)).2.2, ?_, ?_⟩
 ·unfold fourO
  simp only [foldR]
  rw [g1, g2, g3, g4]
 ·rw [a1, a2, a3, a4]
  show (((setE (mN r) p v (-1) : Nat) : Int) = 9 → ((getE (mN r1) p : Nat) : Int) = 0 ∧ nR (getS (mN r1) p) = 1000000000) ∧
   (((setE (mN r) p v (-1) : Nat) : Int) ≠ 9 → ((setE (mN r) p v (-1) : Nat) : Int) ≠ 0 → ((getE (mN r1) p : Nat) : Int) = ((setE (mN r) p v (-1) : Nat) : Int) ∧ ((getE (mN r3) p : Nat) : Int) = ((setE (mN r) p v (-1) : Nat) : Int) ∧ (mN r4).length = (mN r).length) ∧
   (((setE (mN r) p v (-1) : Nat) : Int) = 0 → ((getE (mN r1) p : Nat) : Int) = 0 ∧ nV (getS (mN r1) p) = v ∧ nR (getS (mN r1) p) = (if setE (mN r) p v (-1) = 0 then nR (getS (setS (mN r) p v (-1)) p) else 0) ∧
     (((delE (mN r2) p (-1) : Nat) : Int) = 0 → ((getE (mN r3) p : Nat) : Int) = 6) ∧ (((delE (mN r2) p (-1) : Nat) : Int) ≠ 0 → ((getE (mN r3) p : Nat) : Int) = 0 ∧ nV (getS (mN r3) p) = v))
  rw [n4, n3, n2, n1]
  obtain ⟨N, hN⟩ : ∃ q, mN r = q := ⟨_, rfl⟩
  have hNr : RightP N := by rw [← hN]; exact hr.n
  rw [hN]
  clear n1 n2 n3 n4 a1 a2 a3 a4 g1 g2 g3 g4 R1 R2 R3 R4 hr hn hl hN
  obtain ⟨s1, s2, s3⟩ := right_set N p v (-1) hNr
  rcases Nat.eq_zero_or_pos (setE N p v (-1)) with z | z
  ·obtain ⟨t1, t2⟩ := s3 z
   refine ⟨fun h => by omega, fun _ h => by omega, fun _ => ⟨by omega, by rw [t2], by rw [if_pos z], fun h => ?_, fun h => ?_⟩⟩
   ·have := (right_del _ p (-1) s1).2.2 (by omega)
    omega
   ·have hd : delS (setS N p v (-1)) p (-1) = setS N p v (-1) := by
     unfold delS
     rw [if_neg (by omega)]
    rw [hd]
    exact ⟨by omega, by rw [t2]⟩
  ·have hs : setS N p v (-1) = N := by
    unfold setS
    rw [if_neg (by omega)]
   rw [hs]
   have hw : (getE N p ≠ 0 ∧ setE N p v (-1) = getE N p) ∨ (getE N p = 0 ∧ setE N p v (-1) = 9 ∧ nR (nodeN N p) = 1000000000) := by
    unfold setE at z ⊢
    by_cases hg : getE N p = 0
    ·right
     rw [if_neg (by omega), if_neg (by simp), if_neg (by omega)] at z ⊢
     by_cases h9 : nR (nodeN N p) = 1000000000
     ·rw [if_pos h9]
      exact ⟨hg, rfl, h9⟩
     ·rw [if_neg h9] at z
      omega
    ·left
     rw [if_pos hg]
     exact ⟨hg, rfl⟩
   rcases hw with ⟨w1, w2⟩ | ⟨w1, w2, w3⟩
   ·have hd : delS N p (-1) = N := by
     unfold delS delE
     rw [if_pos w1, if_neg w1]
    have ho := getE_or N p
    rw [hd]
    exact ⟨fun h => by omega, fun _ _ => ⟨by omega, by omega, rfl⟩, fun h => by omega⟩
   ·refine ⟨fun _ => ⟨by omega, ?_⟩, fun h => by omega, fun h => by omega⟩
    unfold getS
    rw [if_pos w1]
    exact w3
theorem free_last (l : List Rp) (c : Int) (h : ∀ x ∈ l, pC x ≠ c) : (lastR l c).2 = false := (lastR_none l c).2 h
end Go.Proofs.YtdihngkdhanhkaaGreatDoor
