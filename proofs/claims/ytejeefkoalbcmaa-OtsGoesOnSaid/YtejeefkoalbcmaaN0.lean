/-
  Plain numbers of SHA-256, of no program: words of 32 bits as natural numbers.
-/
import Derived.Laws.BitsAllLaws
namespace Go.Proofs.Ytejeefkoalbcmaa

def rotr (x k : Nat) : Nat := (x * 2 ^ (32 - k) % 4294967296) ||| (x / 2 ^ k)
def sm0 (x : Nat) : Nat := rotr x 7 ^^^ rotr x 18 ^^^ x / 8
def sm1 (x : Nat) : Nat := rotr x 17 ^^^ rotr x 19 ^^^ x / 1024
def bg0 (x : Nat) : Nat := rotr x 2 ^^^ rotr x 13 ^^^ rotr x 22
def bg1 (x : Nat) : Nat := rotr x 6 ^^^ rotr x 11 ^^^ rotr x 25
def chs (e f g : Nat) : Nat := (e &&& f) ||| ((4294967295 ^^^ e) &&& g)
def mjr (a b c : Nat) : Nat := (a &&& b) ||| (a &&& c) ||| (b &&& c)
def ad (x y : Nat) : Nat := (x + y) % 4294967296

theorem rotr_lt (x k : Nat) (hx : x < 4294967296) : rotr x k < 4294967296 := by
  unfold rotr
  exact Nat.or_lt_two_pow (n := 32) (Nat.mod_lt _ (by decide)) (Nat.lt_of_le_of_lt (Nat.div_le_self _ _) hx)
theorem xor32 {x y : Nat} (hx : x < 4294967296) (hy : y < 4294967296) : x ^^^ y < 4294967296 := Nat.xor_lt_two_pow (n := 32) hx hy
theorem or32 {x y : Nat} (hx : x < 4294967296) (hy : y < 4294967296) : x ||| y < 4294967296 := Nat.or_lt_two_pow (n := 32) hx hy
theorem and32 {x y : Nat} (hy : y < 4294967296) : x &&& y < 4294967296 := Nat.and_lt_two_pow (n := 32) _ hy
theorem sm0_lt (x : Nat) (hx : x < 4294967296) : sm0 x < 4294967296 := xor32 (xor32 (rotr_lt _ _ hx) (rotr_lt _ _ hx)) (by omega)
theorem sm1_lt (x : Nat) (hx : x < 4294967296) : sm1 x < 4294967296 := xor32 (xor32 (rotr_lt _ _ hx) (rotr_lt _ _ hx)) (by omega)
theorem bg0_lt (x : Nat) (hx : x < 4294967296) : bg0 x < 4294967296 := xor32 (xor32 (rotr_lt _ _ hx) (rotr_lt _ _ hx)) (rotr_lt _ _ hx)
theorem bg1_lt (x : Nat) (hx : x < 4294967296) : bg1 x < 4294967296 := xor32 (xor32 (rotr_lt _ _ hx) (rotr_lt _ _ hx)) (rotr_lt _ _ hx)
theorem chs_lt (e f g : Nat) (hf : f < 4294967296) (hg : g < 4294967296) : chs e f g < 4294967296 := or32 (and32 hf) (and32 hg)
theorem mjr_lt (a b c : Nat) (hb : b < 4294967296) (hc : c < 4294967296) : mjr a b c < 4294967296 := or32 (or32 (and32 hb) (and32 hc)) (and32 hc)
theorem ad_lt (x y : Nat) : ad x y < 4294967296 := Nat.mod_lt _ (by decide)
theorem ad_int (x y : Nat) : IntKind.u32.wrap ((x : Int) + (y : Int)) = ((ad x y : Nat) : Int) := by
  rw [IntKind.wrap_u32']; unfold ad; omega
theorem ad_int' (x y : Nat) : ((x : Int) + (y : Int)) % 4294967296 = ((ad x y : Nat) : Int) := by unfold ad; omega
end Go.Proofs.Ytejeefkoalbcmaa
