/-
  SHA-256 over plain numbers, of no program, in a form that the kernel reckons fast: a block of 512 bits on a state of 256 bits; it is the hash over lists of bytes.
  SHA-256 over plain numbers is the hash over lists of bytes; of no program.
  The fixed question of the laws of layer 5, over plain numbers, reckoned by the kernel: of the tree of zero bytes, width 1 and height 1, what leaf 1 signs of the text 'a' does not lead to the public key with the text 'b'. Of no program.
  The fixed question of the laws of layer 5: its numbers, reckoned by the kernel. Of no program.
-/
import Derived.Test.YtllncnnigjgadaaGreatPs
import Derived.Test.YtllncnnigjgadaaGreatLp
namespace Go.Proofs.YtllncnnigjgadaaGreat

/-- The number is reckoned first. -/
noncomputable def fc {α : Type} (n : Nat) (k : Nat → α) : α := Nat.rec (k 0) (fun m _ => k (Nat.succ m)) n
theorem fc_eq {α : Type} (n : Nat) (k : Nat → α) : fc n k = k n := by cases n <;> rfl

def m32 (x : Nat) : Nat := Nat.mod x 4294967296
def kb (y i j k : Nat) : Nat := Nat.mod (Nat.xor (Nat.xor (Nat.shiftRight y i) (Nat.shiftRight y j)) (Nat.shiftRight y k)) 4294967296
def ksm (x y i j k : Nat) : Nat := Nat.xor (Nat.mod (Nat.xor (Nat.shiftRight y i) (Nat.shiftRight y j)) 4294967296) (Nat.shiftRight x k)
def kch (e f g : Nat) : Nat := Nat.lor (Nat.land e f) (Nat.land (Nat.xor 4294967295 e) g)
def kmj (a b c : Nat) : Nat := Nat.lor (Nat.lor (Nat.land a b) (Nat.land a c)) (Nat.land b c)
def dbl (x : Nat) : Nat := Nat.mul x 4294967297
def kat (W i : Nat) : Nat := Nat.mod (Nat.shiftRight W i) 4294967296
/-- The window of sixteen words, one word on. -/
noncomputable def knx (W : Nat) : Nat :=
  fc (kat W 32) fun x => fc (kat W 448) fun y =>
  Nat.add (Nat.mul (Nat.mod W 3121748550315992231381597229793166305748598142664971150859156959625371738819765620120306103063491971159826931121406622895447975679288285306290176) 4294967296)
   (Nat.mod (Nat.add (Nat.add (Nat.add (ksm x (dbl x) 17 19 10) (kat W 192)) (ksm y (dbl y) 7 18 3)) (Nat.shiftRight W 480)) 4294967296)
noncomputable def kgo (l : List Nat) : Nat → Nat → Nat → Nat → Nat → Nat → Nat → Nat → Nat → (Nat → Nat → Nat → Nat → Nat → Nat → Nat → Nat → Nat) → Nat :=
  List.rec (motive := fun _ => Nat → Nat → Nat → Nat → Nat → Nat → Nat → Nat → Nat → (Nat → Nat → Nat → Nat → Nat → Nat → Nat → Nat → Nat) → Nat)
    (fun a b c d e f g h _ r => r a b c d e f g h)
    (fun k _ ih a b c d e f g h W r =>
      fc (Nat.add (Nat.add (Nat.add (Nat.add h (kb (dbl e) 6 11 25)) (kch e f g)) k) (Nat.shiftRight W 480)) fun t =>
      fc (Nat.mod (Nat.add t (Nat.add (kb (dbl a) 2 13 22) (kmj a b c))) 4294967296) fun a' =>
      fc (Nat.mod (Nat.add d t) 4294967296) fun e' =>
      fc (knx W) fun W' => ih a' a b c e' e f g W' r) l
theorem kgo_cons (k : Nat) (l : List Nat) (a b c d e f g h W : Nat) (r : Nat → Nat → Nat → Nat → Nat → Nat → Nat → Nat → Nat) : kgo (k :: l) a b c d e f g h W r =
      (fc (Nat.add (Nat.add (Nat.add (Nat.add h (kb (dbl e) 6 11 25)) (kch e f g)) k) (Nat.shiftRight W 480)) fun t =>
      fc (Nat.mod (Nat.add t (Nat.add (kb (dbl a) 2 13 22) (kmj a b c))) 4294967296) fun a' =>
      fc (Nat.mod (Nat.add d t) 4294967296) fun e' =>
      fc (knx W) fun W' => kgo l a' a b c e' e f g W' r) := rfl
/-- A block on a state. -/
noncomputable def rB (S B : Nat) : Nat :=
  fc S fun S => fc B fun B =>
  fc (Nat.shiftRight S 224) fun a => fc (kat S 192) fun b => fc (kat S 160) fun c => fc (kat S 128) fun d =>
  fc (kat S 96) fun e => fc (kat S 64) fun f => fc (kat S 32) fun g => fc (kat S 0) fun h =>
  kgo kw a b c d e f g h B fun a' b' c' d' e' f' g' h' =>
   Nat.add (Nat.mul (Nat.add (Nat.mul (Nat.add (Nat.mul (Nat.add (Nat.mul (Nat.add (Nat.mul (Nat.add (Nat.mul (Nat.add (Nat.mul (m32 (Nat.add a a')) 4294967296) (m32 (Nat.add b b'))) 4294967296) (m32 (Nat.add c c'))) 4294967296) (m32 (Nat.add d d'))) 4294967296) (m32 (Nat.add e e'))) 4294967296) (m32 (Nat.add f f'))) 4294967296) (m32 (Nat.add g g'))) 4294967296) (m32 (Nat.add h h'))
/-- n blocks of a number, the highest first. -/
noncomputable def rC (S n B : Nat) : Nat := (Nat.rec (motive := fun _ => Nat → Nat) (fun s => s) (fun m ih s => fc (rB s (Nat.mod (Nat.shiftRight B (Nat.mul 512 m)) 13407807929942597099574024998205846127479365820592393377723561443721764030073546976801874298166903427690031858186486050853753882811946569946433649006084096)) ih) n) S

/-- Words of 32 bits as one number. -/
def pkl (l : List Nat) : Nat := l.foldl (fun a x => a * 4294967296 + x) 0
theorem pkl_snoc (l : List Nat) (x : Nat) : pkl (l ++ [x]) = pkl l * 4294967296 + x := by simp [pkl]
theorem pkl_foldl (l : List Nat) (a : Nat) : l.foldl (fun a x => a * 4294967296 + x) a = a * 4294967296 ^ l.length + pkl l := by
  induction l generalizing a with
  | nil => simp [pkl]
  | cons x l ih =>
    have h1 := ih (a * 4294967296 + x)
    have h2 := ih (0 * 4294967296 + x)
    show l.foldl _ (a * 4294967296 + x) = _
    rw [h1]
    have h3 : pkl (x :: l) = l.foldl (fun a x => a * 4294967296 + x) (0 * 4294967296 + x) := rfl
    rw [h3, h2, List.length_cons, Nat.pow_succ, Nat.add_mul, Nat.zero_mul, Nat.zero_add]
    rw [Nat.mul_assoc, Nat.mul_comm 4294967296 (4294967296 ^ l.length)]
    omega
theorem pkl_append (l m : List Nat) : pkl (l ++ m) = pkl l * 4294967296 ^ m.length + pkl m := by
  unfold pkl
  rw [List.foldl_append, pkl_foldl]; rfl
theorem pkl_lt (l : List Nat) (h : W32 l) : pkl l < 4294967296 ^ l.length := by
  induction l with
  | nil => simp [pkl]
  | cons x l ih =>
    have h1 := ih (fun y hy => h y (List.mem_cons_of_mem _ hy))
    have h2 := h x (List.mem_cons_self ..)
    have h3 := pkl_append [x] l
    rw [List.singleton_append] at h3
    have h4 : pkl [x] = x := by simp [pkl]
    rw [h3, h4, List.length_cons, Nat.pow_succ]
    have h5 : (x + 1) * 4294967296 ^ l.length ≤ 4294967296 * 4294967296 ^ l.length := Nat.mul_le_mul_right _ (by omega)
    rw [Nat.add_mul] at h5
    rw [Nat.mul_comm (4294967296 ^ l.length)]
    omega
theorem W32.take {l : List Nat} (h : W32 l) (n : Nat) : W32 (l.take n) := fun x hx => h x (List.mem_of_mem_take hx)
theorem W32.drop {l : List Nat} (h : W32 l) (n : Nat) : W32 (l.drop n) := fun x hx => h x (List.mem_of_mem_drop hx)
theorem pkl_div (l : List Nat) (h : W32 l) (j : Nat) : pkl l / 4294967296 ^ (l.drop j).length = pkl (l.take j) := by
  have h1 := pkl_append (l.take j) (l.drop j)
  rw [List.take_append_drop] at h1
  have h2 := pkl_lt _ (h.drop j)
  rw [h1, Nat.mul_comm, Nat.mul_add_div (Nat.pow_pos (by omega)), Nat.div_eq_of_lt h2, Nat.add_zero]
theorem pkl_mod (l : List Nat) (h : W32 l) (j : Nat) : pkl l % 4294967296 ^ (l.drop j).length = pkl (l.drop j) := by
  have h1 := pkl_append (l.take j) (l.drop j)
  rw [List.take_append_drop] at h1
  have h2 := pkl_lt _ (h.drop j)
  rw [h1, Nat.mul_comm, Nat.mul_add_mod, Nat.mod_eq_of_lt h2]
theorem pkl_get (l : List Nat) (h : W32 l) (n j : Nat) (hl : l.length = n + 1 + j) : pkl l / 4294967296 ^ j % 4294967296 = l.getD n 0 := by
  have h1 := pkl_div l h (n + 1)
  rw [List.length_drop, hl, show n + 1 + j - (n + 1) = j by omega] at h1
  have hn : n < l.length := by omega
  rw [h1, List.take_succ_eq_append_getElem hn, pkl_snoc]
  have h2 := h _ (List.getElem_mem hn)
  rw [List.getD_eq_getElem?_getD, List.getElem?_eq_getElem hn, Option.getD_some]
  omega

theorem m480 : (3121748550315992231381597229793166305748598142664971150859156959625371738819765620120306103063491971159826931121406622895447975679288285306290176 : Nat) = 4294967296 ^ (16 - 1) := by decide +kernel
theorem shr (x k : Nat) : Nat.shiftRight x k = x / 2 ^ k := Nat.shiftRight_eq_div_pow x k
theorem shr480 (x : Nat) : Nat.shiftRight x 480 = x / 4294967296 ^ 15 := by
  have e : 480 = 32 * 15 := rfl
  rw [e, shr]
  exact congrArg (fun y => x / y) (Nat.pow_mul 2 32 15)
theorem rot_dbl (x k : Nat) (hx : x < 4294967296) (hk : k ≤ 32) : dbl x / 2 ^ k % 4294967296 = rotr x k := by
  unfold dbl rotr
  have e : (2 : Nat) ^ 32 = 2 ^ (32 - k) * 2 ^ k := by rw [← Nat.pow_add, show 32 - k + k = 32 by omega]
  have e0 : (4294967296 : Nat) = 2 ^ 32 := rfl
  have e1 : Nat.mul x 4294967297 = 2 ^ k * (x * 2 ^ (32 - k)) + x := by
    show x * 4294967297 = _
    rw [show 2 ^ k * (x * 2 ^ (32 - k)) = x * (2 ^ (32 - k) * 2 ^ k) by rw [Nat.mul_comm, Nat.mul_assoc], ← e]
    omega
  have hlt : x / 2 ^ k < 2 ^ (32 - k) := by
    rw [Nat.div_lt_iff_lt_mul (Nat.pow_pos (by omega)), ← e]; exact hx
  rw [e1, Nat.mul_add_div (Nat.pow_pos (by omega))]
  have e2 : x * 2 ^ (32 - k) % 4294967296 = (x % 2 ^ k) * 2 ^ (32 - k) := by
    rw [e0, e, Nat.mul_comm x, Nat.mul_mod_mul_left, Nat.mul_comm]
  have e3 : (x % 2 ^ k) * 2 ^ (32 - k) + x / 2 ^ k < 4294967296 := by
    have h1 : x % 2 ^ k + 1 ≤ 2 ^ k := Nat.mod_lt _ (Nat.pow_pos (by omega))
    have h2 : (x % 2 ^ k + 1) * 2 ^ (32 - k) ≤ 2 ^ k * 2 ^ (32 - k) := Nat.mul_le_mul_right _ h1
    rw [Nat.mul_comm (2 ^ k), ← e, Nat.add_mul] at h2
    omega
  rw [← Nat.mod_add_mod, e2, Nat.mod_eq_of_lt e3]
  have := Nat.two_pow_add_eq_or_of_lt hlt (x % 2 ^ k)
  rw [Nat.mul_comm] at this
  exact this
theorem xmod (a b : Nat) : (a ^^^ b) % 4294967296 = (a % 4294967296) ^^^ (b % 4294967296) := Nat.xor_mod_two_pow (n := 32)
theorem kb_eq (x i j k : Nat) (hx : x < 4294967296) (hi : i ≤ 32) (hj : j ≤ 32) (hk : k ≤ 32) : kb (dbl x) i j k = rotr x i ^^^ rotr x j ^^^ rotr x k := by
  unfold kb
  show ((Nat.shiftRight (dbl x) i ^^^ Nat.shiftRight (dbl x) j) ^^^ Nat.shiftRight (dbl x) k) % 4294967296 = _
  rw [xmod, xmod, shr, shr, shr, rot_dbl x i hx hi, rot_dbl x j hx hj, rot_dbl x k hx hk]
theorem ksm_eq (x i j k : Nat) (hx : x < 4294967296) (hi : i ≤ 32) (hj : j ≤ 32) : ksm x (dbl x) i j k = rotr x i ^^^ rotr x j ^^^ x / 2 ^ k := by
  unfold ksm
  show ((Nat.shiftRight (dbl x) i ^^^ Nat.shiftRight (dbl x) j) % 4294967296) ^^^ Nat.shiftRight x k = _
  rw [xmod, shr, shr, shr, rot_dbl x i hx hi, rot_dbl x j hx hj]

theorem sch_get (b : List UInt8) (t m : Nat) (h : t < m) : (sch b m).getD t 0 = (sch b (t + 1)).getD t 0 := by
  induction m with
  | zero => omega
  | succ m ih =>
    rcases Nat.lt_or_ge t m with h1 | h1
    · rw [← ih h1]
      show (sch b m ++ _).getD t 0 = _
      rw [List.getD_eq_getElem?_getD, List.getD_eq_getElem?_getD, List.getElem?_append_left (by rw [sch_length]; exact h1)]
    · obtain rfl : t = m := by omega
      rfl
/-- Words t to t + 15 of the schedule, as one number. -/
def win (b : List UInt8) (t : Nat) : Nat := pkl ((sch b (t + 16)).drop t)
theorem win_len (b : List UInt8) (t : Nat) : ((sch b (t + 16)).drop t).length = 16 := by rw [List.length_drop, sch_length]; omega
theorem win_at (b : List UInt8) (t n j : Nat) (hl : 16 = n + 1 + j) : win b t / 4294967296 ^ j % 4294967296 = (sch b (t + 16)).getD (t + n) 0 := by
  unfold win
  rw [pkl_get _ ((sch_lt b _).drop _) n j (by rw [win_len]; exact hl)]
  rw [List.getD_eq_getElem?_getD, List.getD_eq_getElem?_getD, List.getElem?_drop]
theorem win_lt (b : List UInt8) (t : Nat) : win b t < 4294967296 ^ 16 := by
  have := pkl_lt _ ((sch_lt b (t + 16)).drop t)
  rw [win_len] at this
  exact this
theorem win_top (b : List UInt8) (t : Nat) : win b t / 4294967296 ^ 15 = (sch b (t + 16)).getD t 0 := by
  have h := win_at b t 0 15 rfl
  have h1 : win b t / 4294967296 ^ 15 < 4294967296 := by
    rw [Nat.div_lt_iff_lt_mul (Nat.pow_pos (by omega))]
    have := win_lt b t
    rw [Nat.pow_succ, Nat.mul_comm] at this
    exact this
  rw [Nat.mod_eq_of_lt h1] at h
  exact h
theorem kat_win (b : List UInt8) (t n j : Nat) (hl : 16 = n + 1 + j) : kat (win b t) (32 * j) = (sch b (t + 16)).getD (t + n) 0 := by
  unfold kat
  show Nat.shiftRight _ _ % 4294967296 = _
  rw [shr, Nat.pow_mul]
  exact win_at b t n j hl
theorem ad_mod (x y z u : Nat) : (x + y + z + u) % 4294967296 = ad (ad (ad x y) z) u := by unfold ad; omega
theorem knx_win (b : List UInt8) (t : Nat) : knx (win b t) = win b (t + 1) := by
  have h1 := kat_win b t 14 1 rfl
  have h2 := kat_win b t 1 14 rfl
  have h3 := kat_win b t 9 6 rfl
  have h4 := win_top b t
  have hw := sch_lt b (t + 16)
  have e0 : win b (t + 1) = pkl (((sch b (t + 16)).drop t).drop 1) * 4294967296 + nx (sch b (t + 16)) (t + 16) := by
    unfold win
    have hs : sch b (t + 1 + 16) = sch b (t + 16) ++ [nx (sch b (t + 16)) (t + 16)] := by
      rw [show t + 1 + 16 = (t + 16) + 1 by omega]
      show sch b (t + 16) ++ [if t + 16 < 16 then _ else _] = _
      rw [if_neg (by omega)]
    rw [hs, List.drop_append_of_le_length (by rw [sch_length]; omega), pkl_snoc, List.drop_drop]
  have e1 := pkl_mod ((sch b (t + 16)).drop t) (hw.drop t) 1
  rw [List.length_drop, win_len] at e1
  unfold knx
  rw [fc_eq, fc_eq]
  show (win b t % _) * 4294967296 + (ksm (kat (win b t) 32) (dbl (kat (win b t) 32)) 17 19 10 + kat (win b t) 192 + ksm (kat (win b t) 448) (dbl (kat (win b t) 448)) 7 18 3 + Nat.shiftRight (win b t) 480) % 4294967296 = _
  rw [shr480, h4]
  rw [show (32 : Nat) = 32 * 1 from rfl, show (448 : Nat) = 32 * 14 from rfl, show (192 : Nat) = 32 * 6 from rfl, h1, h2, h3]
  rw [ksm_eq _ _ _ _ (hw.at _) (by omega) (by omega), ksm_eq _ _ _ _ (hw.at _) (by omega) (by omega), ad_mod, e0]
  rw [m480]
  show pkl _ % _ * _ + _ = _
  rw [e1]
  rfl

theorem kgo_run (b : List UInt8) (s : St) (hs : s.ok) (r : Nat → Nat → Nat → Nat → Nat → Nat → Nat → Nat → Nat) : ∀ n t, t + n = 64 →
    kgo (kw.drop t) (rnds s kw (sch b 64) t).a (rnds s kw (sch b 64) t).b (rnds s kw (sch b 64) t).c (rnds s kw (sch b 64) t).d (rnds s kw (sch b 64) t).e (rnds s kw (sch b 64) t).f (rnds s kw (sch b 64) t).g (rnds s kw (sch b 64) t).h (win b t) r
    = r (rnds s kw (sch b 64) 64).a (rnds s kw (sch b 64) 64).b (rnds s kw (sch b 64) 64).c (rnds s kw (sch b 64) 64).d (rnds s kw (sch b 64) 64).e (rnds s kw (sch b 64) 64).f (rnds s kw (sch b 64) 64).g (rnds s kw (sch b 64) 64).h := by
  intro n
  induction n with
  | zero =>
    intro t ht
    obtain rfl : t = 64 := by omega
    rw [List.drop_of_length_le (by rw [kw_length]; omega)]
    rfl
  | succ n ih =>
    intro t ht
    have hn : t < kw.length := by rw [kw_length]; omega
    have hk : kw.getD t 0 = kw[t] := by rw [List.getD_eq_getElem?_getD, List.getElem?_eq_getElem hn, Option.getD_some]
    have hwt : (sch b 64).getD t 0 = win b t / 4294967296 ^ 15 := by rw [win_top, sch_get b t 64 (by omega), sch_get b t (t + 16) (by omega)]
    obtain ⟨o1, o2, o3, o4, o5, o6, o7, o8⟩ := rnds_ok s kw (sch b 64) hs t
    rw [← ih (t + 1) (by omega), List.drop_eq_getElem_cons hn, ← knx_win]
    have e : rnds s kw (sch b 64) (t + 1) = rnd (rnds s kw (sch b 64) t) (kw.getD t 0) ((sch b 64).getD t 0) := rfl
    rw [e, hwt, hk]
    generalize rnds s kw (sch b 64) t = S at o1 o2 o3 o4 o5 o6 o7 o8 ⊢
    generalize kw[t] = k
    generalize win b t = W
    rw [kgo_cons, fc_eq, fc_eq, fc_eq, fc_eq]
    have ea : (rnd S k (W / 4294967296 ^ 15)).a = Nat.mod (Nat.add (Nat.add (Nat.add (Nat.add (Nat.add S.h (kb (dbl S.e) 6 11 25)) (kch S.e S.f S.g)) k) (Nat.shiftRight W 480)) (Nat.add (kb (dbl S.a) 2 13 22) (kmj S.a S.b S.c))) 4294967296 := by
      show ad (t1 S k _) (t2 S) = (S.h + kb (dbl S.e) 6 11 25 + kch S.e S.f S.g + k + Nat.shiftRight W 480 + (kb (dbl S.a) 2 13 22 + kmj S.a S.b S.c)) % 4294967296
      rw [kb_eq _ _ _ _ o5 (by omega) (by omega) (by omega), kb_eq _ _ _ _ o1 (by omega) (by omega) (by omega), shr480]
      show ad (ad (ad (ad (ad S.h (bg1 S.e)) (chs S.e S.f S.g)) k) _) (ad (bg0 S.a) (mjr S.a S.b S.c)) = (S.h + bg1 S.e + chs S.e S.f S.g + k + W / 4294967296 ^ 15 + (bg0 S.a + mjr S.a S.b S.c)) % 4294967296
      generalize W / 4294967296 ^ 15 = u
      unfold ad
      omega
    have ee : (rnd S k (W / 4294967296 ^ 15)).e = Nat.mod (Nat.add S.d (Nat.add (Nat.add (Nat.add (Nat.add S.h (kb (dbl S.e) 6 11 25)) (kch S.e S.f S.g)) k) (Nat.shiftRight W 480))) 4294967296 := by
      show ad S.d (t1 S k _) = (S.d + (S.h + kb (dbl S.e) 6 11 25 + kch S.e S.f S.g + k + Nat.shiftRight W 480)) % 4294967296
      rw [kb_eq _ _ _ _ o5 (by omega) (by omega) (by omega), shr480]
      show ad S.d (ad (ad (ad (ad S.h (bg1 S.e)) (chs S.e S.f S.g)) k) _) = (S.d + (S.h + bg1 S.e + chs S.e S.f S.g + k + W / 4294967296 ^ 15)) % 4294967296
      generalize W / 4294967296 ^ 15 = u
      unfold ad
      omega
    rw [ea, ee]
    rfl

theorem val_foldl (l : List UInt8) (a : Nat) : l.foldl (fun a b => 256 * a + b.toNat) a = a * 256 ^ l.length + val l := by
  induction l generalizing a with
  | nil => simp [val]
  | cons x l ih =>
    have h1 := ih (256 * a + x.toNat)
    have h2 := ih (256 * 0 + x.toNat)
    show l.foldl _ (256 * a + x.toNat) = _
    have h3 : val (x :: l) = l.foldl (fun a b => 256 * a + b.toNat) (256 * 0 + x.toNat) := rfl
    rw [h1, h3, h2, List.length_cons, Nat.pow_succ, Nat.add_mul, Nat.mul_zero, Nat.zero_add]
    rw [Nat.mul_comm 256 a, Nat.mul_assoc, Nat.mul_comm 256 (256 ^ l.length)]
    omega
theorem val_app (l m : List UInt8) : val (l ++ m) = val l * 256 ^ m.length + val m := by
  unfold val
  rw [List.foldl_append, val_foldl]; rfl
theorem or_add (a b k : Nat) (h : b < 2 ^ k) : a * 2 ^ k ||| b = a * 2 ^ k + b := by
  have := Nat.two_pow_add_eq_or_of_lt h a
  rw [Nat.mul_comm] at this
  exact this.symm
theorem wd_sum (b : List UInt8) (t : Nat) : wd b t = (b.getD (4 * t) 0).toNat * 16777216 + (b.getD (4 * t + 1) 0).toNat * 65536 + (b.getD (4 * t + 2) 0).toNat * 256 + (b.getD (4 * t + 3) 0).toNat := by
  have h1 := (b.getD (4 * t) 0).toNat_lt
  have h2 := (b.getD (4 * t + 1) 0).toNat_lt
  have h3 := (b.getD (4 * t + 2) 0).toNat_lt
  have h4 := (b.getD (4 * t + 3) 0).toNat_lt
  unfold wd
  generalize (b.getD (4 * t) 0).toNat = x at *
  generalize (b.getD (4 * t + 1) 0).toNat = y at *
  generalize (b.getD (4 * t + 2) 0).toNat = z at *
  generalize (b.getD (4 * t + 3) 0).toNat = u at *
  have e1 := or_add x (y * 65536) 24 (by omega)
  have e2 := or_add (x * 256 + y) (z * 256) 16 (by omega)
  have e3 := or_add (x * 65536 + y * 256 + z) u 8 (by omega)
  rw [show x * 16777216 = x * 2 ^ 24 from rfl, e1, show x * 2 ^ 24 + y * 65536 = (x * 256 + y) * 2 ^ 16 by omega, e2, show (x * 256 + y) * 2 ^ 16 + z * 256 = (x * 65536 + y * 256 + z) * 2 ^ 8 by omega, e3]
theorem val_four (b : List UInt8) (t : Nat) (h : 4 * t + 4 ≤ b.length) : val (b.take (4 * (t + 1))) = val (b.take (4 * t)) * 4294967296 + wd b t := by
  have e : b.take (4 * (t + 1)) = b.take (4 * t) ++ [b.getD (4 * t) 0, b.getD (4 * t + 1) 0, b.getD (4 * t + 2) 0, b.getD (4 * t + 3) 0] := by
    have g : ∀ i, i < b.length → b.getD i 0 = b[i]! ∧ b.take (i + 1) = b.take i ++ [b.getD i 0] := by
      intro i hi
      have h1 : b.getD i 0 = b[i] := by rw [List.getD_eq_getElem?_getD, List.getElem?_eq_getElem hi, Option.getD_some]
      exact ⟨by rw [h1]; simp [hi], by rw [h1]; exact List.take_succ_eq_append_getElem hi⟩
    rw [show 4 * (t + 1) = 4 * t + 1 + 1 + 1 + 1 by omega, (g (4 * t + 1 + 1 + 1) (by omega)).2, (g (4 * t + 1 + 1) (by omega)).2, (g (4 * t + 1) (by omega)).2, (g (4 * t) (by omega)).2]
    simp
  rw [e, val_app, wd_sum]
  simp only [List.length_cons, List.length_nil, val, List.foldl_cons, List.foldl_nil]
  omega
theorem pkl_sch (b : List UInt8) (hb : b.length = 64) : ∀ t, t ≤ 16 → pkl (sch b t) = val (b.take (4 * t)) := by
  intro t
  induction t with
  | zero => intro _; rfl
  | succ t ih =>
    intro ht
    have e : sch b (t + 1) = sch b t ++ [wd b t] := by
      show sch b t ++ [if t < 16 then _ else _] = _
      rw [if_pos (by omega)]
    rw [e, pkl_snoc, ih (by omega), val_four b t (by omega)]
theorem win_zero (b : List UInt8) (hb : b.length = 64) : win b 0 = val b := by
  unfold win
  rw [List.drop_zero, pkl_sch b hb 16 (by omega), List.take_of_length_le (by omega)]

end Go.Proofs.YtllncnnigjgadaaGreat

namespace Go.Proofs.YtllncnnigjgadaaGreat

theorem pkl8 (a b c d e f g h : Nat) : pkl [a, b, c, d, e, f, g, h] = Nat.add (Nat.mul (Nat.add (Nat.mul (Nat.add (Nat.mul (Nat.add (Nat.mul (Nat.add (Nat.mul (Nat.add (Nat.mul (Nat.add (Nat.mul a 4294967296) b) 4294967296) c) 4294967296) d) 4294967296) e) 4294967296) f) 4294967296) g) 4294967296) h := by
  unfold pkl
  rw [List.foldl_cons, List.foldl_cons, List.foldl_cons, List.foldl_cons, List.foldl_cons, List.foldl_cons, List.foldl_cons, List.foldl_cons, List.foldl_nil, Nat.zero_mul, Nat.zero_add]
  rfl
theorem rB_un (S B : Nat) : rB S B = kgo kw (Nat.shiftRight S 224) (kat S 192) (kat S 160) (kat S 128) (kat S 96) (kat S 64) (kat S 32) (kat S 0) B (fun a' b' c' d' e' f' g' h' =>
   Nat.add (Nat.mul (Nat.add (Nat.mul (Nat.add (Nat.mul (Nat.add (Nat.mul (Nat.add (Nat.mul (Nat.add (Nat.mul (Nat.add (Nat.mul (m32 (Nat.add (Nat.shiftRight S 224) a')) 4294967296) (m32 (Nat.add (kat S 192) b'))) 4294967296) (m32 (Nat.add (kat S 160) c'))) 4294967296) (m32 (Nat.add (kat S 128) d'))) 4294967296) (m32 (Nat.add (kat S 96) e'))) 4294967296) (m32 (Nat.add (kat S 64) f'))) 4294967296) (m32 (Nat.add (kat S 32) g'))) 4294967296) (m32 (Nat.add (kat S 0) h'))) := by
  unfold rB
  rw [fc_eq, fc_eq, fc_eq, fc_eq, fc_eq, fc_eq, fc_eq, fc_eq, fc_eq, fc_eq]
theorem rB_eq (s : List Nat) (b : List UInt8) (hs : s.length = 8) (hw : W32 s) (hb : b.length = 64) : rB (pkl s) (val b) = pkl (blk s b) := by
  have g : ∀ n j, 8 = n + 1 + j → kat (pkl s) (32 * j) = s.getD n 0 := by
    intro n j h
    unfold kat
    show Nat.shiftRight _ _ % 4294967296 = _
    rw [shr, Nat.pow_mul]
    exact pkl_get s hw n j (by omega)
  have g0 : Nat.shiftRight (pkl s) 224 = s.getD 0 0 := by
    have h := g 0 7 rfl
    unfold kat at h
    have h1 : Nat.shiftRight (pkl s) 224 < 4294967296 := by
      rw [shr, Nat.div_lt_iff_lt_mul (Nat.pow_pos (by omega))]
      have := pkl_lt s hw
      rw [hs] at this
      exact this
    have h2 : Nat.shiftRight (pkl s) 224 % 4294967296 = s.getD 0 0 := h
    rw [Nat.mod_eq_of_lt h1] at h2
    exact h2
  have g1 := g 1 6 rfl
  have g2 := g 2 5 rfl
  have g3 := g 3 4 rfl
  have g4 := g 4 3 rfl
  have g5 := g 5 2 rfl
  have g6 := g 6 1 rfl
  have g7 := g 7 0 rfl
  have hk := kgo_run b (St.of s) (St.of_ok hw) (fun a' b' c' d' e' f' g' h' =>
   Nat.add (Nat.mul (Nat.add (Nat.mul (Nat.add (Nat.mul (Nat.add (Nat.mul (Nat.add (Nat.mul (Nat.add (Nat.mul (Nat.add (Nat.mul (m32 (Nat.add (s.getD 0 0) a')) 4294967296) (m32 (Nat.add (s.getD 1 0) b'))) 4294967296) (m32 (Nat.add (s.getD 2 0) c'))) 4294967296) (m32 (Nat.add (s.getD 3 0) d'))) 4294967296) (m32 (Nat.add (s.getD 4 0) e'))) 4294967296) (m32 (Nat.add (s.getD 5 0) f'))) 4294967296) (m32 (Nat.add (s.getD 6 0) g'))) 4294967296) (m32 (Nat.add (s.getD 7 0) h'))) 64 0 rfl
  have e0 : rnds (St.of s) kw (sch b 64) 0 = St.of s := rfl
  rw [win_zero b hb, e0, List.drop_zero] at hk
  have q0 : (St.of s).a = s.getD 0 0 := rfl
  have q1 : (St.of s).b = s.getD 1 0 := rfl
  have q2 : (St.of s).c = s.getD 2 0 := rfl
  have q3 : (St.of s).d = s.getD 3 0 := rfl
  have q4 : (St.of s).e = s.getD 4 0 := rfl
  have q5 : (St.of s).f = s.getD 5 0 := rfl
  have q6 : (St.of s).g = s.getD 6 0 := rfl
  have q7 : (St.of s).h = s.getD 7 0 := rfl
  rw [q0, q1, q2, q3, q4, q5, q6, q7] at hk
  rw [rB_un, g0]
  have G1 : kat (pkl s) 192 = s.getD 1 0 := g1
  have G2 : kat (pkl s) 160 = s.getD 2 0 := g2
  have G3 : kat (pkl s) 128 = s.getD 3 0 := g3
  have G4 : kat (pkl s) 96 = s.getD 4 0 := g4
  have G5 : kat (pkl s) 64 = s.getD 5 0 := g5
  have G6 : kat (pkl s) 32 = s.getD 6 0 := g6
  have G7 : kat (pkl s) 0 = s.getD 7 0 := g7
  rw [G1, G2, G3, G4, G5, G6, G7]
  rw [hk]
  clear hk
  generalize hV : rnds (St.of s) kw (sch b 64) 64 = V
  have e : blk s b = fin (St.of s) V := by rw [← hV]; rfl
  rw [e]
  have hm : ∀ x y, m32 (Nat.add x y) = ad x y := fun _ _ => rfl
  have hf : fin (St.of s) V = [ad (s.getD 0 0) V.a, ad (s.getD 1 0) V.b, ad (s.getD 2 0) V.c, ad (s.getD 3 0) V.d, ad (s.getD 4 0) V.e, ad (s.getD 5 0) V.f, ad (s.getD 6 0) V.g, ad (s.getD 7 0) V.h] := rfl
  rw [hf]
  rw [hm, hm, hm, hm, hm, hm, hm, hm]
  exact (pkl8 _ _ _ _ _ _ _ _).symm

theorem rC_succ (S n B : Nat) : rC S (n + 1) B = rC (rB S (B / 2 ^ (512 * n) % 13407807929942597099574024998205846127479365820592393377723561443721764030073546976801874298166903427690031858186486050853753882811946569946433649006084096)) n B := by
  show fc (rB S (Nat.mod (Nat.shiftRight B (Nat.mul 512 n)) _)) _ = _
  rw [fc_eq, shr]
  rfl
theorem m512 : (13407807929942597099574024998205846127479365820592393377723561443721764030073546976801874298166903427690031858186486050853753882811946569946433649006084096 : Nat) = 4294967296 ^ 16 := by decide +kernel
theorem e16 : (4294967296 : Nat) ^ 16 = 2 ^ 512 := by decide +kernel
theorem p16 (n : Nat) : 4294967296 ^ 16 * 2 ^ (512 * n) = 2 ^ (512 * (n + 1)) := by
  have h : 512 + 512 * n = 512 * (n + 1) := by omega
  have e := Nat.pow_add 2 512 (512 * n)
  rw [← e16, h] at e
  exact e.symm
theorem rC_mod (n : Nat) : ∀ S T R, rC S n (T * 2 ^ (512 * n) + R) = rC S n R := by
  induction n with
  | zero => intro S T R; rfl
  | succ n ih =>
    intro S T R
    have e : T * 2 ^ (512 * (n + 1)) = (T * 4294967296 ^ 16) * 2 ^ (512 * n) := by rw [Nat.mul_assoc, p16]
    rw [rC_succ, rC_succ, e, ih, m512, Nat.mul_comm (T * 4294967296 ^ 16), Nat.mul_add_div (Nat.pow_pos (by omega)), Nat.mul_comm T, Nat.mul_add_mod]
theorem rC_eq (n : Nat) : ∀ (s : List Nat) (b : List UInt8), s.length = 8 → W32 s → b.length = 64 * n → rC (pkl s) n (val b) = pkl (chain s n b) := by
  induction n with
  | zero => intro s b _ _ _; rfl
  | succ n ih =>
    intro s b hs hw hb
    have h1 : (b.take 64).length = 64 := by rw [List.length_take]; omega
    have h2 : (b.drop 64).length = 64 * n := by rw [List.length_drop]; omega
    have e := val_app (b.take 64) (b.drop 64)
    have p : (256 : Nat) ^ (64 * n) = 2 ^ (512 * n) := by rw [show (256 : Nat) = 2 ^ 8 from rfl, ← Nat.pow_mul]; congr 1; omega
    rw [List.take_append_drop, h2, p] at e
    have l1 := val_lt (b.drop 64)
    rw [h2, p] at l1
    have l2 := val_lt (b.take 64)
    rw [h1, show (256 : Nat) ^ 64 = 4294967296 ^ 16 by rw [show (4294967296 : Nat) = 256 ^ 4 from rfl, ← Nat.pow_mul]] at l2
    rw [rC_succ, e, rC_mod, Nat.mul_comm, Nat.mul_add_div (Nat.pow_pos (by omega)), Nat.div_eq_of_lt l1, Nat.add_zero, m512, Nat.mod_eq_of_lt l2, rB_eq s _ hs hw h1]
    exact ih _ _ rfl (proc_lt _ _ _) h2

def ivN : Nat := 0x6a09e667bb67ae853c6ef372a54ff53a510e527f9b05688c1f83d9ab5be0cd19
theorem ivN_eq : ivN = pkl iv := by decide +kernel
theorem val_joinl (s : List Nat) (h : W32 s) : val (joinl s) = pkl s := by
  induction s with
  | nil => rfl
  | cons x s ih =>
    have h1 := ih (fun y hy => h y (List.mem_cons_of_mem _ hy))
    have h2 := h x (List.mem_cons_self ..)
    have e := pkl_append [x] s
    rw [List.singleton_append] at e
    have e4 : pkl [x] = x := by simp [pkl]
    have e3 : joinl (x :: s) = be 4 x ++ joinl s := rfl
    rw [e3, val_app, val_be, h1, joinl_length, e, e4, Nat.mod_eq_of_lt h2, Nat.pow_mul]
/-- The hash of bytes, as a number. -/
theorem val_hash (l : List UInt8) (n : Nat) (hn : l.length + (9 + zn l.length) = 64 * n) : val (hash l) = rC ivN n (val l * 256 ^ (9 + zn l.length) + (128 * 256 ^ (8 + zn l.length) + l.length * 8 % 18446744073709551616)) := by
  have hp := padl_length l.length
  have hb : (l ++ padl l.length).length = 64 * n := by rw [List.length_append, hp]; exact hn
  have hz : ∀ k, val (List.replicate k (0 : UInt8)) = 0 := by
    intro k
    induction k with
    | zero => rfl
    | succ k ih => rw [List.replicate_succ', val_snoc, ih]; rfl
  have e : val (padl l.length) = 128 * 256 ^ (8 + zn l.length) + l.length * 8 % 18446744073709551616 := by
    unfold padl
    rw [show ∀ t : List UInt8, (128 : UInt8) :: t = [128] ++ t from fun _ => rfl, val_app, val_app, hz, be_length, val_be, List.length_append, List.length_replicate, be_length, Nat.zero_mul, Nat.zero_add, Nat.add_comm 8]
    congr 1
    exact Nat.mod_eq_of_lt (Nat.mod_lt _ (by decide))
  rw [← e, ← hp, ← val_app, ivN_eq, rC_eq n iv _ iv_length iv_lt hb]
  unfold hash
  rw [val_joinl _ (chain_lt iv iv_lt _ _)]
  congr 2
  rw [hp, hn]
  omega
end Go.Proofs.YtllncnnigjgadaaGreat

namespace Go.Proofs.YtllncnnigjgadaaGreat

def Z16 : List UInt8 := List.replicate 16 0
def Z32 : List UInt8 := List.replicate 32 0
def p256 : Nat := 115792089237316195423570985008687907853269984665640564039457584007913129639936
theorem p256_eq : p256 = 256 ^ 32 := by decide +kernel
theorem val_pre (q : Nat) (hq : q < 4294967296) : val (pre20 Z16 q) = q := by
  unfold pre20
  rw [val_app, val_be]
  have : val Z16 = 0 := by decide
  rw [this, Nat.zero_mul, Nat.zero_add]
  exact Nat.mod_eq_of_lt hq
theorem pre_len (q : Nat) : (pre20 Z16 q).length = 20 := pre20_length _ _ rfl
theorem val_by2 (i : Nat) (h : i < 65536) : val (by2 i) = i := by
  simp [by2, val]; omega
/-- The hash of 55 bytes. -/
noncomputable def h55 (x : Nat) : Nat := rC ivN 1 (Nat.add (Nat.mul x 4722366482869645213696) 2361183241434822607288)
theorem h55_eq (l : List UInt8) (hl : l.length = 55) : val (hash l) = h55 (val l) := by
  rw [val_hash l 1 (by rw [hl]; decide), hl]
  rfl
noncomputable def h54 (x : Nat) : Nat := rC ivN 1 (Nat.add (Nat.mul x 1208925819614629174706176) 604462909807314587353520)
theorem h54_eq (l : List UInt8) (hl : l.length = 54) : val (hash l) = h54 (val l) := by
  rw [val_hash l 1 (by rw [hl]; decide), hl]
  rfl
noncomputable def h86 (x : Nat) : Nat := rC ivN 2 (Nat.add (Nat.mul x 139984046386112763159840142535527767382602843577165595931249318810236991948760059086304843329475444736) 69992023193056381579920071267763883691301421788582797965624659405118495974380029543152421664737723056)
theorem h86_eq (l : List UInt8) (hl : l.length = 86) : val (hash l) = h86 (val l) := by
  rw [val_hash l 2 (by rw [hl]; decide), hl]
  congr 1
noncomputable def hlong (x : Nat) : Nat := rC ivN 133 (Nat.add (Nat.mul x 1208925819614629174706176) 604462909807314587421104)
theorem hlong_eq (l : List UInt8) (hl : l.length = 8502) : val (hash l) = hlong (val l) := by
  rw [val_hash l 133 (by rw [hl]; decide), hl]
  rfl

noncomputable def sN (q i : Nat) : Nat := h55 (Nat.mul (Nat.add (Nat.mul (Nat.add (Nat.mul q 65536) i) 256) 255) p256)
noncomputable def tN (q i j x : Nat) : Nat := h55 (Nat.add (Nat.mul (Nat.add (Nat.mul (Nat.add (Nat.mul q 65536) i) 256) j) p256) x)
theorem val_cat3 (q i j : Nat) (x : List UInt8) (b : UInt8) (hb : b.toNat = j) (hq : q < 4294967296) (hi : i < 65536) (hx : x.length = 32) : val (pre20 Z16 q ++ [by2 i, [b], x].flatten) = ((q * 65536 + i) * 256 + j) * p256 + val x := by
  have e : [by2 i, [b], x].flatten = by2 i ++ ([b] ++ x) := by simp
  have eb : val [b] = j := by simp [val, hb]
  have l2 : (by2 i).length = 2 := rfl
  rw [e, val_app, val_app, val_app, val_pre q hq, val_by2 i hi, eb, List.length_append, List.length_append, l2, hx, p256_eq, List.length_singleton]
  rw [show 2 + (1 + 32) = 3 + 32 by omega, show 1 + 32 = 1 + 32 from rfl, Nat.pow_add, Nat.pow_add]
  generalize (256 : Nat) ^ 32 = P
  rw [show (256 : Nat) ^ 3 = 16777216 from rfl, Nat.pow_one]
  rw [Nat.add_mul, Nat.add_mul, Nat.add_mul, ← Nat.mul_assoc, ← Nat.mul_assoc i, show q * 65536 * 256 = q * 16777216 by omega]
  simp only [Nat.add_assoc]
theorem len_cat3 (q i : Nat) (x : List UInt8) (b : UInt8) (hx : x.length = 32) : (pre20 Z16 q ++ [by2 i, [b], x].flatten).length = 55 := by
  have l2 : (by2 i).length = 2 := rfl
  simp [pre_len, l2, hx]
theorem sN_eq (q i : Nat) (hq : q < 4294967296) (hi : i < 65536) : val (hsec (pre20 Z16 q) Z32 i) = sN q i := by
  unfold hsec sN
  rw [h55_eq _ (len_cat3 q i Z32 255 rfl), val_cat3 q i 255 Z32 255 rfl hq hi rfl, show val Z32 = 0 by decide, Nat.add_zero]
  generalize p256 = P
  rfl
theorem tN_eq (q i j : Nat) (x : List UInt8) (hq : q < 4294967296) (hi : i < 65536) (hj : j < 256) (hx : x.length = 32) : val (hstep (pre20 Z16 q) i j x) = tN q i j (val x) := by
  unfold hstep tN
  rw [h55_eq _ (len_cat3 q i x _ hx), val_cat3 q i j x _ (by simp; omega) hq hi hx]
  generalize p256 = P
  rfl
noncomputable def eN (q i : Nat) : Nat := fc (sN q i) fun x => tN q i 0 x
theorem eN_eq (q i : Nat) (hq : q < 4294967296) (hi : i < 65536) : val (endF (pre20 Z16 q) Z32 1 i) = eN q i := by
  unfold endF eN
  rw [fc_eq]
  show val (hstep (pre20 Z16 q) i (0 + 0) (hsec (pre20 Z16 q) Z32 i)) = _
  rw [tN_eq q i (0 + 0) _ hq hi (by omega) (hsec_length _ _ _), sN_eq q i hq hi]
/-- Rows of 32 bytes as one number. -/
noncomputable def rN (g : Nat → Nat) (n : Nat) : Nat := Nat.rec (motive := fun _ => Nat) 0 (fun i M => fc M fun M => fc (g i) fun y => Nat.add (Nat.mul M p256) y) n
theorem rN_eq (f : Nat → List UInt8) (g : Nat → Nat) (hf : ∀ i, (f i).length = 32) (n : Nat) (h : ∀ i, i < n → val (f i) = g i) : val (rowsTo f n) = rN g n := by
  induction n with
  | zero => rfl
  | succ n ih =>
    rw [rowsTo_succ, val_app, ih (fun i hi => h i (by omega)), h n (by omega), hf, ← p256_eq]
    show _ = fc (rN g n) fun M => fc (g n) fun y => Nat.add (Nat.mul M p256) y
    rw [fc_eq, fc_eq]
    rfl
def p265 : Nat := Nat.pow 2 67840
theorem p265_eq : p265 = 256 ^ (32 * 265) := by decide +kernel
/-- The public hash of rows. -/
noncomputable def uN (q R : Nat) : Nat := hlong (Nat.add (Nat.mul (Nat.add (Nat.mul q 65536) 32896) p265) R)
theorem uN_eq (q : Nat) (f : Nat → List UInt8) (g : Nat → Nat) (hq : q < 4294967296) (hf : ∀ i, (f i).length = 32) (h : ∀ i, i < 265 → val (f i) = g i) : val (hpub (pre20 Z16 q) (rowsTo f 265)) = uN q (rN g 265) := by
  have hl := rowsTo_length f hf 265
  have e : [[128, 128], rowsTo f 265].flatten = [128, 128] ++ rowsTo f 265 := by simp
  have e2 : val ([128, 128] : List UInt8) = 32896 := by decide
  unfold hpub uN
  rw [e, hlong_eq _ (by rw [List.length_append, List.length_append, hl, pre_len]; rfl), val_app, val_app, val_pre q hq, e2, List.length_append, hl, Nat.pow_add, ← p265_eq, rN_eq f g hf 265 h]
  generalize p265 = P
  generalize rN g 265 = R
  congr 1
  show q * (256 ^ 2 * P) + (32896 * P + R) = (q * 65536 + 32896) * P + R
  rw [Nat.add_mul, ← Nat.mul_assoc, Nat.add_assoc]
end Go.Proofs.YtllncnnigjgadaaGreat

namespace Go.Proofs.YtllncnnigjgadaaGreat

def nC : Nat := 0x39ba881d421ab3adaa185cba1ded9d03d7eb7c12fb7a6e90a82a8bac720dc1d6
def nQa : Nat := 0x7f45231dc6374299284e593580f8294e4c16e218cd865b454e3bd9ec8733845c
def nQb : Nat := 0xf9dc6a6a06d2478cf70cf9223f1261b2d878f34572fc4df115b3ad2fdea9a3a3
def nDA : Nat := 0x223a21cce1379bdc72a2da61b31847683272941f01ac9a72149942ec63b8c4a2fe
def nDB : Nat := 0x3cc5c5957bf4b5cda88fb23f4ea2cf1e1b4d8648fc449f30ef31e24b6056563b9f
def nU0 : Nat := 0xdf8762df7b251bd81bd7a98ab1dfb7c9e260316aad2a103d7742a9ca685a56f0
def nUC : Nat := 0x5ef167eec46522cd0acaf6bb1155b7adb8570b3e39a07caf778851b39c729eda
def nU1 : Nat := 0x789ff45944700e411f2129ceb45cefd2c415335529958adbda66b08bd4ed42b6
theorem of_val (l : List UInt8) (n : Nat) (hl : l.length = 32) (h : val l = n) : l = be 32 n := by rw [← h, ← hl, be_val]
theorem rnd_is : hrnd (pre20 Z16 1) Z32 = be 32 nC := by
  refine of_val _ _ (hrnd_length _ _) ?_
  unfold hrnd
  rw [h55_eq _ (by decide)]
  decide +kernel
theorem msg_a : hmsg (pre20 Z16 1) (be 32 nC) [97] = be 32 nQa := by
  refine of_val _ _ (hmsg_length _ _ _) ?_
  unfold hmsg
  rw [h55_eq _ (by decide +kernel)]
  decide +kernel
theorem msg_b : hmsg (pre20 Z16 1) (be 32 nC) [98] = be 32 nQb := by
  refine of_val _ _ (hmsg_length _ _ _) ?_
  unfold hmsg
  rw [h55_eq _ (by decide +kernel)]
  decide +kernel
def bits (D : Nat) : List Nat := (List.range 265).map fun i => D / 2 ^ i % 2
theorem bits_at (D i : Nat) (h : i < 265) : (bits D).getD i 0 = D / 2 ^ i % 2 := by simp [bits, h]
theorem dig_a : allD (be 32 nQa) 1 = bits nDA := by decide +kernel
theorem dig_b : allD (be 32 nQb) 1 = bits nDB := by decide +kernel
noncomputable def cN (i : Nat) : Nat :=
  fc (sN 1 i) fun x => fc (Nat.rec (motive := fun _ => Nat) x (fun _ _ => tN 1 i 0 x) (Nat.mod (Nat.shiftRight nDA i) 2)) fun y => Nat.rec (motive := fun _ => Nat) (tN 1 i 0 y) (fun _ _ => y) (Nat.mod (Nat.shiftRight nDB i) 2)
theorem mny_1 : mny 1 = 265 := by decide
theorem gr_1 : gr 1 = 1 := by decide
theorem cN_eq (i : Nat) (hi : i < 265) : val (cndF (pre20 Z16 1) (sigL (pre20 Z16 1) Z32 [97] 1) (bits nDB) 1 i) = cN i := by
  have hl := hsec_length (pre20 Z16 1) Z32 i
  unfold cndF
  rw [hAt_sig _ _ _ _ i (by rw [mny_1]; exact hi)]
  unfold sgnF sdig
  rw [rnd_is, msg_a, dig_a, bits_at _ _ hi, bits_at _ _ hi, gr_1]
  unfold cN
  rw [fc_eq, fc_eq, ← sN_eq 1 i (by omega) (by omega)]
  have e1 : Nat.mod (Nat.shiftRight nDA i) 2 = nDA / 2 ^ i % 2 := by rw [shr]; rfl
  have e2 : Nat.mod (Nat.shiftRight nDB i) 2 = nDB / 2 ^ i % 2 := by rw [shr]; rfl
  rw [e1, e2]
  generalize nDA / 2 ^ i = A
  generalize nDB / 2 ^ i = B
  generalize hsec (pre20 Z16 1) Z32 i = x at hl ⊢
  have hA : A % 2 = 0 ∨ A % 2 = 1 := by omega
  have hB : B % 2 = 0 ∨ B % 2 = 1 := by omega
  have hs : ∀ y : List UInt8, y.length = 32 → tN 1 i 0 (val y) = val (hstep (pre20 Z16 1) i 0 y) := fun y hy => (tN_eq 1 i 0 y (by omega) (by omega) (by omega) hy).symm
  have hl2 : (hstep (pre20 Z16 1) i 0 x).length = 32 := hash_length _
  rcases hA with hA | hA <;> rcases hB with hB | hB <;> rw [hA, hB]
  · show val (hstep (pre20 Z16 1) i (0 + 0) x) = tN 1 i 0 (val x)
    rw [hs x hl]
  · rfl
  · show val (hstep (pre20 Z16 1) i (0 + 0) (hstep (pre20 Z16 1) i (0 + 0) x)) = tN 1 i 0 (tN 1 i 0 (val x))
    rw [hs x hl, hs _ hl2]
  · show val (hstep (pre20 Z16 1) i (0 + 0) x) = tN 1 i 0 (val x)
    rw [hs x hl]
end Go.Proofs.YtllncnnigjgadaaGreat
