/- The rows of a list of lists of bytes: their bytes, put together; how many. Own work. -/
import Derived.Test.YtjhjhhibfojpiaaDoorVEvRetL
import Derived.Test.YtjhjhhibfojpiaaDoorVEvFam
import Derived.Test.YtjhjhhibfojpiaaDoorVEvLists
import Derived.Test.YtjhjhhibfojpiaaDoorVEvOps
set_option linter.unusedSimpArgs false
set_option linter.unusedVariables false
set_option linter.unusedSectionVars false
namespace Go.Rw
open Go.Ev
theorem wrap64 (x : Int) : IntKind.wrap .i64 x = (x + 9223372036854775808) % 18446744073709551616 - 9223372036854775808 := by
  unfold IntKind.wrap; simp [IntKind.bits, IntKind.signed]; omega
end Go.Rw
namespace Go.Ev
variable [RowTab]
/-- A row's bytes; all up to one; how long they are, and how many. -/
def rowL (i : Nat) : List Int := match rowX i with
  | .buf _ _ _ l => l
  | _ => []
def catR : Nat → List Int
  | 0 => []
  | j + 1 => catR j ++ rowL j
def sumR : Nat → Nat
  | 0 => 0
  | j + 1 => sumR j + (1 + (rowL j).length)
theorem catR_len : ∀ j, (catR j).length ≤ sumR j
  | 0 => Nat.le_refl _
  | j + 1 => by
    have := catR_len j
    unfold catR sumR
    rw [List.length_append]
    omega
theorem rowL_nil {i : Nat} (h : rowX i = .pl .nilslice) : rowL i = [] := by unfold rowL; rw [h]
theorem rowL_empty {i : Nat} (h : rowX i = .empty) : rowL i = [] := by unfold rowL; rw [h]
theorem rowL_buf {i m : Nat} {b : Bool} {k : IntKind} {l : List Int} (h : rowX i = .buf b k m l) : rowL i = l := by unfold rowL; rw [h]
theorem sumR_mono : ∀ {j k : Nat}, j ≤ k → sumR j ≤ sumR k
  | j, 0, h => by cases Nat.le_zero.1 h; exact Nat.le_refl _
  | j, k + 1, h => by
    by_cases e : j = k + 1
    · subst e; exact Nat.le_refl _
    · have := sumR_mono (j := j) (k := k) (by omega)
      show sumR j ≤ sumR k + (1 + (rowL k).length)
      omega
end Go.Ev
namespace Go.Ev
def cubeL : List Int := [4794697086780616226, 8158064640168781261, 13096744586834688815, 16840607885511220156, 4131703408338449720, 6480981068601479193, 10538285296894168987, 12329834152419229976, 15566598209576043074, 1334009975649890238, 2608012711638119052, 6128411473006802146, 8268148722764581231, 9286055187155687089, 11230858885718282805, 13951009754708518548, 16472876342353939154, 17275323862435702243, 1135362057144423861, 2597628984639134821, 3308224258029322869, 5365058923640841347, 6679025012923562964, 8573033837759648693, 10970295158949994411, 12119686244451234320, 12683024718118986047, 13788192230050041572, 14330467153632333762, 15395433587784984357, 489312712824947311, 1452737877330783856, 2861767655752347644, 3322285676063803686, 5560940570517711597, 5996557281743188959, 7280758554555802590, 8532644243296465576, 9350256976987008742, 10552545826968843579, 11727347734174303076, 12113106623233404929, 14000437183269869457, 14369950271660146224, 15101387698204529176, 15463397548674623760, 17586052441742319658, 1182934255886127544, 1847814050463011016, 2177327727835720531, 2830643537854262169, 3796741975233480872, 4115178125766777443, 5681478168544905931, 6601373596472566643, 7507060721942968483, 8399075790359081724, 8693463985226723168, 9568029438360202098, 10144078919501101548, 10430055236837252648, 11840083180663258601, 13761210420658862357, 14299343276471374635, 14566680578165727644, 15097957966210449927, 16922976911328602910, 17689382322260857208, 500013540394364858, 748580250866718886, 1242879168328830382, 1977374033974150939, 2944078676154940804, 3659926193048069267, 4368137639120453308, 4836135668995329356, 5532061633213252278, 6448918945643986474, 6902733635092675308, 7801388544844847127]
def squareL : List Int := [7640891576956012808, 13503953896175478587, 4354685564936845355, 11912009170470909681, 5840696475078001361, 11170449401992604703, 2270897969802886507, 6620516959819538809, 14680500436340154072, 7105036623409894663, 10473403895298186519, 1526699215303891257, 7436329637833083697, 10282925794625328401, 15784041429090275239, 5167115440072839076]
variable [RowTab]
instance tabS : Tab := tabR fun g => match Nat.beq g 1 with
  | true => some (.ints .u64 (some 80) cubeL)
  | false => match Nat.beq g 0 with
    | true => some (.ints .u64 (some 16) squareL)
    | false => none
end Go.Ev
namespace Go.Sh
open Go.Ev
/-- Bit by bit. -/
def ix (x y : Int) : Int := ((x.toNat ^^^ y.toNat : Nat) : Int)
def ia (x y : Int) : Int := ((x.toNat &&& y.toNat : Nat) : Int)
def io (x y : Int) : Int := ((x.toNat ||| y.toNat : Nat) : Int)
/-- A word of w bits. -/
def Wd (w : Nat) (x : Int) : Prop := 0 ≤ x ∧ x < 2 ^ w
theorem wd_nat {w : Nat} {x : Int} (h : Wd w x) : ∃ a : Nat, a < 2 ^ w ∧ x = (a : Int) := by
  refine ⟨x.toNat, ?_, by unfold Wd at h; omega⟩
  have h1 : ((x.toNat : Nat) : Int) < ((2 ^ w : Nat) : Int) := by
    rw [Int.toNat_of_nonneg h.1]; simpa using h.2
  exact Int.ofNat_lt.1 h1
theorem nat_wd {w a : Nat} (h : a < 2 ^ w) : Wd w (a : Int) := by
  refine ⟨by omega, ?_⟩
  have : ((a : Nat) : Int) < ((2 ^ w : Nat) : Int) := Int.ofNat_lt.2 h
  simpa using this
theorem ix_wd {w : Nat} {x y : Int} (hx : Wd w x) (hy : Wd w y) : Wd w (ix x y) := by
  obtain ⟨a, ha, rfl⟩ := wd_nat hx
  obtain ⟨b, hb, rfl⟩ := wd_nat hy
  exact nat_wd (Nat.xor_lt_two_pow ha hb)
theorem ia_wd {w : Nat} {x y : Int} (hx : Wd w x) : Wd w (ia x y) := by
  obtain ⟨a, ha, rfl⟩ := wd_nat hx
  exact nat_wd (Nat.lt_of_le_of_lt Nat.and_le_left ha)
theorem io_wd {w : Nat} {x y : Int} (hx : Wd w x) (hy : Wd w y) : Wd w (io x y) := by
  obtain ⟨a, ha, rfl⟩ := wd_nat hx
  obtain ⟨b, hb, rfl⟩ := wd_nat hy
  exact nat_wd (Nat.or_lt_two_pow ha hb)
theorem wrap_u {k : IntKind} (hk : k.signed = false) (x : Int) : k.wrap x = x % 2 ^ k.bits := by
  unfold IntKind.wrap
  cases k <;> simp [IntKind.signed, IntKind.bits] at *
theorem wrap_wd {k : IntKind} (hk : k.signed = false) {x : Int} (h : Wd k.bits x) : k.wrap x = x := by
  rw [wrap_u hk]; exact Int.emod_eq_of_lt h.1 h.2
theorem ofInt_nat {n a : Nat} (h : a < 2 ^ n) : (BitVec.ofInt n (a : Int)).toNat = a := by
  rw [BitVec.ofInt_natCast, BitVec.toNat_ofNat, Nat.mod_eq_of_lt h]
theorem ixor_ix {k : IntKind} (hk : k.signed = false) {x y : Int} (hx : Wd k.bits x) (hy : Wd k.bits y) : ixor k x y = ix x y := by
  have h := ix_wd hx hy
  obtain ⟨a, ha, rfl⟩ := wd_nat hx
  obtain ⟨b, hb, rfl⟩ := wd_nat hy
  unfold ixor
  rw [BitVec.toNat_xor, ofInt_nat ha, ofInt_nat hb]
  exact wrap_wd hk h
theorem iand_ia {k : IntKind} (hk : k.signed = false) {x y : Int} (hx : Wd k.bits x) (hy : Wd k.bits y) : iand k x y = ia x y := by
  have h := ia_wd (y := y) hx
  obtain ⟨a, ha, rfl⟩ := wd_nat hx
  obtain ⟨b, hb, rfl⟩ := wd_nat hy
  unfold iand
  rw [BitVec.toNat_and, ofInt_nat ha, ofInt_nat hb]
  exact wrap_wd hk h
theorem ior_io {k : IntKind} (hk : k.signed = false) {x y : Int} (hx : Wd k.bits x) (hy : Wd k.bits y) : ior k x y = io x y := by
  have h := io_wd hx hy
  obtain ⟨a, ha, rfl⟩ := wd_nat hx
  obtain ⟨b, hb, rfl⟩ := wd_nat hy
  unfold ior
  rw [BitVec.toNat_or, ofInt_nat ha, ofInt_nat hb]
  exact wrap_wd hk h
theorem shr_div {k : IntKind} {x : Int} {n : Nat} (hn : n ≤ k.bits) : ishr k x (n : Int) = x / 2 ^ n := by
  unfold ishr
  rw [Int.toNat_natCast, Nat.min_eq_left hn, Int.fdiv_eq_ediv_of_nonneg _ (Int.le_of_lt (Int.pow_pos (by omega)))]
theorem shl_mul {k : IntKind} (hk : k.signed = false) {x : Int} {n : Nat} (hn : n ≤ k.bits) : ishl k x (n : Int) = x * 2 ^ n % 2 ^ k.bits := by
  unfold ishl
  rw [Int.toNat_natCast, Nat.min_eq_left hn, wrap_u hk]
/-- Turned by n bits to the right, of w. -/
def rr (w n : Nat) (x : Int) : Int := x / 2 ^ n + x % 2 ^ n * 2 ^ (w - n)
theorem pow_split {w n : Nat} (h : n ≤ w) : (2 : Int) ^ w = 2 ^ n * 2 ^ (w - n) := by rw [← Int.pow_add]; congr 1; omega
theorem pos2 (n : Nat) : (0 : Int) < 2 ^ n := Int.pow_pos (by omega)
theorem div_lt {w n : Nat} (h : n ≤ w) {x : Int} (hx : Wd w x) : 0 ≤ x / 2 ^ n ∧ x / 2 ^ n < 2 ^ (w - n) := by
  refine ⟨Int.ediv_nonneg hx.1 (Int.le_of_lt (pos2 n)), ?_⟩
  apply Int.ediv_lt_of_lt_mul (pos2 n)
  rw [Int.mul_comm, ← pow_split h]; exact hx.2
theorem mul_mod {w n : Nat} (h : n ≤ w) (x : Int) : x * 2 ^ (w - n) % 2 ^ w = x % 2 ^ n * 2 ^ (w - n) := by
  rw [pow_split h, Int.mul_comm x, Int.mul_comm (2 ^ n), Int.mul_emod_mul_of_pos _ _ (pos2 _), Int.mul_comm]
theorem rr_wd {w n : Nat} (h : n ≤ w) {x : Int} (hx : Wd w x) : Wd w (rr w n x) := by
  obtain ⟨d1, d2⟩ := div_lt h hx
  have m1 := Int.emod_nonneg x (Int.ne_of_gt (pos2 n))
  have m2 := Int.emod_lt_of_pos x (pos2 n)
  have hp := pos2 (w - n)
  unfold rr Wd
  rw [pow_split h]
  generalize x / 2 ^ n = d at *
  generalize x % 2 ^ n = m at *
  generalize (2 : Int) ^ (w - n) = p at *
  generalize (2 : Int) ^ n = q at *
  have e1 : 0 ≤ m * p := Int.mul_nonneg m1 (Int.le_of_lt hp)
  have e2 : m * p ≤ (q - 1) * p := Int.mul_le_mul_of_nonneg_right (by omega) (Int.le_of_lt hp)
  have e3 : (q - 1) * p = q * p - p := by rw [Int.sub_mul, Int.one_mul]
  omega
theorem or_add {a b s : Nat} (h : b < 2 ^ s) : a * 2 ^ s ||| b = a * 2 ^ s + b := by
  have := Nat.shiftLeft_add_eq_or_of_lt h a
  rw [Nat.shiftLeft_eq] at this
  exact this.symm
/-- Turned, as the program and the reference have it. -/
theorem rot_io {w n : Nat} (h : n ≤ w) {x : Int} (hx : Wd w x) : io (x * 2 ^ (w - n) % 2 ^ w) (x / 2 ^ n) = rr w n x := by
  obtain ⟨a, ha, rfl⟩ := wd_nat hx
  rw [mul_mod h]
  have e1 : ((a : Nat) : Int) % 2 ^ n * 2 ^ (w - n) = ((a % 2 ^ n * 2 ^ (w - n) : Nat) : Int) := by simp
  have e2 : ((a : Nat) : Int) / 2 ^ n = ((a / 2 ^ n : Nat) : Int) := by simp
  have hlt : a / 2 ^ n < 2 ^ (w - n) := by
    apply Nat.div_lt_of_lt_mul
    rw [← Nat.pow_add, show n + (w - n) = w by omega]; exact ha
  unfold rr io
  rw [e1, e2, Int.toNat_natCast, Int.toNat_natCast, or_add hlt]
  omega
theorem io_comm (x y : Int) : io x y = io y x := by unfold io; rw [Nat.or_comm]
/-- What e picks of f and g. -/
def cho (w : Nat) (e f g : Int) : Int := io (ia e f) (ia (2 ^ w - 1 - e) g)
def maj (a b c : Int) : Int := io (io (ia a b) (ia a c)) (ia b c)
def big0 (w : Nat) (a : Int) : Int := if w = 32 then ix (ix (rr 32 2 a) (rr 32 13 a)) (rr 32 22 a) else ix (ix (rr 64 28 a) (rr 64 34 a)) (rr 64 39 a)
def big1 (w : Nat) (e : Int) : Int := if w = 32 then ix (ix (rr 32 6 e) (rr 32 11 e)) (rr 32 25 e) else ix (ix (rr 64 14 e) (rr 64 18 e)) (rr 64 41 e)
def sml0 (w : Nat) (x : Int) : Int := if w = 32 then ix (ix (rr 32 7 x) (rr 32 18 x)) (x / 2 ^ 3) else ix (ix (rr 64 1 x) (rr 64 8 x)) (x / 2 ^ 7)
def sml1 (w : Nat) (x : Int) : Int := if w = 32 then ix (ix (rr 32 17 x) (rr 32 19 x)) (x / 2 ^ 10) else ix (ix (rr 64 19 x) (rr 64 61 x)) (x / 2 ^ 6)
/-- The number of bytes, the highest first. -/
def be (l : List Int) : Int := l.foldl (fun a x => a * 256 + x) 0
/-- The next of the words W. -/
def nextW (w : Nat) (b : List Int) (ws : List Int) : Int :=
  if ws.length < 16 then be ((b.drop (w / 8 * ws.length)).take (w / 8))
  else (ws.getD (ws.length - 16) 0 + sml0 w (ws.getD (ws.length - 15) 0) + ws.getD (ws.length - 7) 0 + sml1 w (ws.getD (ws.length - 2) 0)) % 2 ^ w
def wordsW (w : Nat) (b : List Int) : Nat → List Int
  | 0 => []
  | n + 1 => wordsW w b n ++ [nextW w b (wordsW w b n)]
/-- A round. -/
def roundW (w : Nat) (K x : Int) : List Int → List Int
  | [a, b, c, d, e, f, g, h] =>
    [((h + big1 w e + cho w e f g + K + x) + (big0 w a + maj a b c)) % 2 ^ w, a, b, c, (d + (h + big1 w e + cho w e f g + K + x)) % 2 ^ w, e, f, g]
  | l => l
end Go.Sh
