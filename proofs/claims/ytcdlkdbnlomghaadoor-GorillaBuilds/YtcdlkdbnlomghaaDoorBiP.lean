/-
  Bits in a row, plainly: lists of bits, bytes that hold them, numbers of some bits.
-/
import Derived.Laws.BitsAllLaws
namespace Go.Proofs.YtcdlkdbnlomghaaDoor.Bi
/-- a bit of a list as a number, nought behind its end -/
def bt (l : List Bool) (i : Nat) : Nat := (l.getD i false).toNat
theorem bt_lt (l : List Bool) (i : Nat) : bt l i < 2 := by unfold bt; cases l.getD i false <;> decide
/-- so many bits of f from a on, as a number, the first one the highest -/
def val (f : Nat → Nat) (a : Nat) : Nat → Nat
  | 0 => 0
  | n + 1 => 2 * val f a n + f (a + n)
theorem val_lt {f : Nat → Nat} (hf : ∀ i, f i < 2) (a : Nat) : ∀ n, val f a n < 2 ^ n
  | 0 => by simp [val]
  | n + 1 => by
    have h1 := val_lt hf a n
    have h2 := hf (a + n)
    have h3 : 2 ^ (n + 1) = 2 * 2 ^ n := by rw [Nat.pow_succ, Nat.mul_comm]
    show 2 * val f a n + f (a + n) < 2 ^ (n + 1)
    omega
theorem val_add (f : Nat → Nat) (a m : Nat) : ∀ n, val f a (m + n) = val f a m * 2 ^ n + val f (a + m) n
  | 0 => by simp [val]
  | n + 1 => by
    have h1 := val_add f a m n
    show 2 * val f a (m + n) + f (a + (m + n)) = val f a m * 2 ^ (n + 1) + (2 * val f (a + m) n + f (a + m + n))
    rw [h1, Nat.mul_add, Nat.pow_succ, show a + (m + n) = a + m + n by omega, ← Nat.mul_assoc (val f a m), Nat.mul_comm 2 (val f a m * 2 ^ n)]
    omega
theorem val_congr {f g : Nat → Nat} {a b : Nat} : ∀ {n : Nat}, (∀ i, i < n → f (a + i) = g (b + i)) → val f a n = val g b n
  | 0, _ => rfl
  | n + 1, h => by
    have h1 := val_congr (n := n) (fun i hi => h i (by omega))
    show 2 * val f a n + f (a + n) = 2 * val g b n + g (b + n)
    rw [h1, h n (by omega)]
theorem val_zero {f : Nat → Nat} {a : Nat} : ∀ {n : Nat}, (∀ i, i < n → f (a + i) = 0) → val f a n = 0
  | 0, _ => rfl
  | n + 1, h => by
    have h1 := val_zero (n := n) (fun i hi => h i (by omega))
    show 2 * val f a n + f (a + n) = 0
    rw [h1, h n (by omega)]
theorem bt_left {l : List Bool} (m : List Bool) {i : Nat} (h : i < l.length) : bt (l ++ m) i = bt l i := by
  unfold bt
  simp only [List.getD_eq_getElem?_getD]
  rw [List.getElem?_append_left h]
theorem bt_right (l m : List Bool) (i : Nat) : bt (l ++ m) (l.length + i) = bt m i := by
  unfold bt
  simp only [List.getD_eq_getElem?_getD]
  rw [List.getElem?_append_right (by omega)]
  simp
theorem bt_end {l : List Bool} {i : Nat} (h : l.length ≤ i) : bt l i = 0 := by
  unfold bt
  simp only [List.getD_eq_getElem?_getD]
  rw [List.getElem?_eq_none h]
  rfl
theorem bt_drop (l : List Bool) (a i : Nat) : bt (l.drop a) i = bt l (a + i) := by
  unfold bt
  simp
theorem bt_take {l : List Bool} {n i : Nat} (h : i < n) : bt (l.take n) i = bt l i := by
  unfold bt
  simp only [List.getD_eq_getElem?_getD]
  rw [List.getElem?_take, if_pos h]
/-- the lowest n bits of a number, the highest first -/
def low (u : Nat) : Nat → List Bool
  | 0 => []
  | n + 1 => low (u / 2) n ++ [u % 2 == 1]
theorem low_len : ∀ (u n : Nat), (low u n).length = n
  | _, 0 => rfl
  | u, n + 1 => by
    show (low (u / 2) n ++ [u % 2 == 1]).length = n + 1
    rw [List.length_append, low_len]
    rfl
/-- a list of bits as a number -/
def valL (l : List Bool) : Nat := val (bt l) 0 l.length
theorem valL_snoc (l : List Bool) (b : Bool) : valL (l ++ [b]) = 2 * valL l + b.toNat := by
  unfold valL
  rw [List.length_append]
  show 2 * val (bt (l ++ [b])) 0 l.length + bt (l ++ [b]) (0 + l.length) = _
  have h1 : val (bt (l ++ [b])) 0 l.length = val (bt l) 0 l.length := val_congr fun i hi => by
    rw [Nat.zero_add]; exact bt_left _ hi
  have h2 : bt (l ++ [b]) (0 + l.length) = b.toNat := by
    have := bt_right l [b] 0
    rw [Nat.zero_add]
    rw [Nat.add_zero] at this
    rw [this]
    rfl
  rw [h1, h2]
theorem toNat_beq (u : Nat) : (u % 2 == 1).toNat = u % 2 := by
  have h : u % 2 = 0 ∨ u % 2 = 1 := by omega
  rcases h with h | h <;> rw [h] <;> rfl
theorem valL_low : ∀ (u n : Nat), valL (low u n) = u % 2 ^ n
  | u, 0 => by simp [low, valL, val, Nat.mod_one]
  | u, n + 1 => by
    show valL (low (u / 2) n ++ [u % 2 == 1]) = u % 2 ^ (n + 1)
    rw [valL_snoc, valL_low (u / 2) n, toNat_beq, Nat.pow_succ, Nat.mul_comm (2 ^ n) 2, Nat.mod_mul]
    omega
theorem valL_lt (l : List Bool) : valL l < 2 ^ l.length := val_lt (bt_lt l) 0 _
theorem snoc_ind {P : List Bool → Prop} (h0 : P []) (h1 : ∀ l b, P l → P (l ++ [b])) (l : List Bool) : P l := by
  have : ∀ n (l : List Bool), l.length = n → P l := by
    intro n
    induction n with
    | zero => intro l hl; rw [List.length_eq_zero_iff.1 hl]; exact h0
    | succ n ih =>
      intro l hl
      have hne : l ≠ [] := by intro e; rw [e] at hl; simp at hl
      rw [← List.dropLast_concat_getLast hne]
      exact h1 _ _ (ih _ (by rw [List.length_dropLast, hl]; rfl))
  exact this _ l rfl
theorem low_valL (l : List Bool) : low (valL l) l.length = l := by
  refine snoc_ind (P := fun l => low (valL l) l.length = l) rfl (fun l b ih => ?_) l
  rw [List.length_append, valL_snoc]
  show low ((2 * valL l + b.toNat) / 2) l.length ++ [(2 * valL l + b.toNat) % 2 == 1] = l ++ [b]
  have h1 : (2 * valL l + b.toNat) / 2 = valL l := by cases b <;> simp <;> omega
  have h2 : ((2 * valL l + b.toNat) % 2 == 1) = b := by cases b <;> simp <;> omega
  rw [h1, h2, ih]
theorem low_add : ∀ (u a b : Nat), low u (a + b) = low (u / 2 ^ b) a ++ low u b
  | u, a, 0 => by simp [low]
  | u, a, b + 1 => by
    show low (u / 2) (a + b) ++ [u % 2 == 1] = low (u / 2 ^ (b + 1)) a ++ (low (u / 2) b ++ [u % 2 == 1])
    rw [low_add (u / 2) a b, List.append_assoc, Nat.div_div_eq_div_mul, Nat.pow_succ, Nat.mul_comm 2]
theorem low_mod (u n : Nat) : low (u % 2 ^ n) n = low u n := by
  have h := low_valL (low u n)
  rwa [valL_low, low_len] at h
theorem valL_append (l m : List Bool) : valL (l ++ m) = valL l * 2 ^ m.length + valL m := by
  unfold valL
  rw [List.length_append, val_add]
  have h1 : val (bt (l ++ m)) 0 l.length = val (bt l) 0 l.length := val_congr fun i hi => by
    rw [Nat.zero_add]; exact bt_left _ hi
  have h2 : val (bt (l ++ m)) (0 + l.length) m.length = val (bt m) 0 m.length := val_congr fun i hi => by
    rw [Nat.zero_add, Nat.zero_add]; exact bt_right l m i
  rw [h1, h2]
/-- bits of a list from a on, as a number -/
theorem val_piece {l : List Bool} {a n : Nat} (h : a + n ≤ l.length) : val (bt l) a n = valL ((l.drop a).take n) := by
  unfold valL
  have hl : ((l.drop a).take n).length = n := by simp; omega
  rw [hl]
  exact val_congr fun i hi => by rw [Nat.zero_add, bt_take hi, bt_drop]
/-- a byte of a list's bits -/
def byteOf (l : List Bool) (j : Nat) : Nat := val (bt l) (8 * j) 8
theorem byteOf_lt (l : List Bool) (j : Nat) : byteOf l j < 256 := val_lt (bt_lt l) _ 8
theorem byteOf_end {l : List Bool} {j : Nat} (h : l.length ≤ 8 * j) : byteOf l j = 0 := val_zero fun i _ => bt_end (by omega)
/-- so many bytes of a list's bits -/
def pack (l : List Bool) (M : Nat) : List Nat := (List.range M).map (byteOf l)
theorem pack_len (l : List Bool) (M : Nat) : (pack l M).length = M := by simp [pack]
theorem pack_get (l : List Bool) {M j : Nat} (h : j < M) : (pack l M).getD j 0 = byteOf l j := by simp [pack, h]
theorem pack_lt (l : List Bool) (M : Nat) : ∀ b ∈ pack l M, b < 256 := by
  intro b hb
  obtain ⟨j, _, rfl⟩ := List.mem_map.1 hb
  exact byteOf_lt l j
theorem pack_ext {l : List Bool} {M : Nat} {bs : List Nat} (hl : bs.length = M) (h : ∀ j, j < M → bs.getD j 0 = byteOf l j) : bs = pack l M := by
  refine List.ext_getElem (by rw [hl, pack_len]) fun j h1 h2 => ?_
  have := h j (by omega)
  rw [← pack_get l (by omega : j < M)] at this
  simpa [h1, h2] using this
theorem byte_split (l : List Bool) (j p q : Nat) (h : p + q = 8) : byteOf l j = val (bt l) (8 * j) p * 2 ^ q + val (bt l) (8 * j + p) q := by
  unfold byteOf
  rw [← val_add, h]
/-- a piece of a byte, cut out by two shifts -/
theorem word_part (l : List Bool) (a s : Nat) (h : a % 8 + s ≤ 8) : byteOf l (a / 8) * 2 ^ (a % 8) % 256 / 2 ^ (8 - s) = val (bt l) a s := by
  obtain ⟨r, hr⟩ : ∃ r, 8 = a % 8 + (s + r) := ⟨8 - a % 8 - s, by omega⟩
  have hb : byteOf l (a / 8) = val (bt l) (8 * (a / 8)) (a % 8) * 2 ^ (s + r) + (val (bt l) a s * 2 ^ r + val (bt l) (a + s) r) := by
    rw [byte_split l (a / 8) (a % 8) (s + r) hr.symm, show 8 * (a / 8) + a % 8 = a by omega, val_add]
  have hR := val_lt (bt_lt l) (a + s) r
  have hV := val_lt (bt_lt l) a s
  generalize val (bt l) (8 * (a / 8)) (a % 8) = A at hb
  generalize val (bt l) a s = V at hb hV ⊢
  generalize val (bt l) (a + s) r = R at hb hR
  generalize a % 8 = p at *
  have e256 : 256 = 2 ^ (s + r) * 2 ^ p := by rw [← Nat.pow_add, show s + r + p = 8 by omega]
  have hsmall : V * 2 ^ r + R < 2 ^ (s + r) := by
    rw [Nat.pow_add]
    have : (V + 1) * 2 ^ r ≤ 2 ^ s * 2 ^ r := Nat.mul_le_mul_right _ hV
    rw [Nat.add_mul, Nat.one_mul] at this
    omega
  rw [hb, e256, Nat.mul_mod_mul_right, Nat.add_comm, Nat.mul_comm A, Nat.add_mul_mod_self_left, Nat.mod_eq_of_lt hsmall, show 8 - s = r + p by omega, Nat.pow_add, Nat.mul_div_mul_right _ _ (Nat.two_pow_pos p), Nat.add_comm (V * 2 ^ r), Nat.add_mul_div_right _ _ (Nat.two_pow_pos r), Nat.div_eq_of_lt hR, Nat.zero_add]
/-- a byte with a piece laid over noughts -/
theorem lay_part (l m : List Bool) (h : l.length % 8 + m.length ≤ 8) : byteOf (l ++ m) (l.length / 8) = byteOf l (l.length / 8) ||| valL m * 2 ^ (8 - m.length) / 2 ^ (l.length % 8) := by
  obtain ⟨r, hr⟩ : ∃ r, 8 = l.length % 8 + (m.length + r) := ⟨8 - l.length % 8 - m.length, by omega⟩
  have hq : 8 * (l.length / 8) + l.length % 8 = l.length := by omega
  have h1 : byteOf (l ++ m) (l.length / 8) = val (bt l) (8 * (l.length / 8)) (l.length % 8) * 2 ^ (m.length + r) + valL m * 2 ^ r := by
    rw [byte_split (l ++ m) (l.length / 8) (l.length % 8) (m.length + r) hr.symm, hq, val_add]
    have e1 : val (bt (l ++ m)) (8 * (l.length / 8)) (l.length % 8) = val (bt l) (8 * (l.length / 8)) (l.length % 8) := val_congr fun i hi => bt_left _ (by omega)
    have e2 : val (bt (l ++ m)) l.length m.length = valL m := val_congr fun i _ => by rw [Nat.zero_add]; exact bt_right l m i
    have e3 : val (bt (l ++ m)) (l.length + m.length) r = 0 := val_zero fun i _ => bt_end (by simp)
    rw [e1, e2, e3, Nat.add_zero]
  have h2 : byteOf l (l.length / 8) = val (bt l) (8 * (l.length / 8)) (l.length % 8) * 2 ^ (m.length + r) := by
    rw [byte_split l (l.length / 8) (l.length % 8) (m.length + r) hr.symm, hq]
    have e3 : val (bt l) l.length (m.length + r) = 0 := val_zero fun i _ => bt_end (by omega)
    rw [e3, Nat.add_zero]
  have h3 : valL m * 2 ^ (8 - m.length) / 2 ^ (l.length % 8) = valL m * 2 ^ r := by
    rw [show 8 - m.length = r + l.length % 8 by omega, Nat.pow_add, ← Nat.mul_assoc, Nat.mul_div_cancel _ (Nat.two_pow_pos _)]
  have hm := valL_lt m
  rw [h1, h2, h3]
  refine (Go.nat_join (m.length + r) _ _ (Nat.mul_mod_left _ _) ?_).symm
  rw [Nat.pow_add]
  exact Nat.mul_lt_mul_of_pos_right hm (Nat.two_pow_pos _)
theorem lay_other (l m : List Bool) (h : l.length % 8 + m.length ≤ 8) {j : Nat} (hj : j ≠ l.length / 8) : byteOf (l ++ m) j = byteOf l j := by
  refine val_congr fun i hi => ?_
  by_cases h1 : 8 * j + i < l.length
  · exact bt_left _ h1
  · rw [bt_end (l := l) (by omega), bt_end (by rw [List.length_append]; omega)]
theorem pack_lay (l m : List Bool) (M : Nat) (h : l.length % 8 + m.length ≤ 8) : pack (l ++ m) M = (pack l M).set (l.length / 8) (byteOf l (l.length / 8) ||| valL m * 2 ^ (8 - m.length) / 2 ^ (l.length % 8)) := by
  refine (pack_ext (by simp [pack_len]) fun j hj => ?_).symm
  by_cases e : l.length / 8 = j
  · subst e
    simp only [List.getD_eq_getElem?_getD]
    rw [List.getElem?_set, if_pos rfl, if_pos (by rw [pack_len]; exact hj)]
    exact (lay_part l m h).symm
  · simp only [List.getD_eq_getElem?_getD]
    rw [List.getElem?_set, if_neg e, ← List.getD_eq_getElem?_getD, pack_get l hj]
    exact (lay_other l m h (fun x => e x.symm)).symm
/-- the piece that is laid, as it is reckoned -/
theorem cut_part (x s : Nat) (hs : s ≤ 8) : x % 256 * 2 ^ (8 - s) % 256 = x % 2 ^ s * 2 ^ (8 - s) := by
  have e : 256 = 2 ^ s * 2 ^ (8 - s) := by rw [← Nat.pow_add, show s + (8 - s) = 8 by omega]
  have h1 : x % 256 * 2 ^ (8 - s) % 256 = x * 2 ^ (8 - s) % 256 := by rw [Nat.mod_mul_mod]
  rw [h1]
  conv => lhs; rw [e]
  rw [Nat.mul_mod_mul_right]
theorem pack_nil (M : Nat) : pack [] M = List.replicate M 0 := by
  refine (pack_ext (by simp) fun j hj => ?_).symm
  rw [byteOf_end (by simp)]
  simp [hj]
/-- bytes needed -/
def need (n : Nat) : Nat := (n + 7) / 8
/-- bytes that are grown by noughts -/
theorem pack_grow (l : List Bool) {M K : Nat} (hM : l.length ≤ 8 * M) : pack l (M + K) = pack l M ++ List.replicate K 0 := by
  refine (pack_ext (by simp [pack_len]) fun j hj => ?_).symm
  by_cases h : j < M
  · simp only [List.getD_eq_getElem?_getD]
    rw [List.getElem?_append_left (by rw [pack_len]; exact h), ← List.getD_eq_getElem?_getD, pack_get l h]
  · rw [byteOf_end (by omega)]
    simp only [List.getD_eq_getElem?_getD]
    rw [List.getElem?_append_right (by rw [pack_len]; omega), pack_len]
    rw [List.getElem?_replicate]
    split <;> rfl
/-- the bits that bytes hold -/
def unpack (bs : List Nat) (n : Nat) : List Bool := (List.range n).map fun i => bs.getD (i / 8) 0 / 2 ^ (7 - i % 8) % 2 == 1
theorem unpack_len (bs : List Nat) (n : Nat) : (unpack bs n).length = n := by simp [unpack]
theorem unpack_bt (bs : List Nat) {n i : Nat} (h : i < n) : bt (unpack bs n) i = bs.getD (i / 8) 0 / 2 ^ (7 - i % 8) % 2 := by
  unfold bt unpack
  simp only [List.getD_eq_getElem?_getD]
  rw [List.getElem?_map, List.getElem?_range h]
  simp only [Option.map_some, Option.getD_some]
  exact toNat_beq _
theorem unpack_snoc (bs : List Nat) (n : Nat) : unpack bs (n + 1) = unpack bs n ++ [bs.getD (n / 8) 0 / 2 ^ (7 - n % 8) % 2 == 1] := by
  unfold unpack
  rw [List.range_succ, List.map_append]
  rfl
/-- the highest k bits of a byte, one by one -/
theorem val_top (b : Nat) (f : Nat → Nat) (a : Nat) : ∀ k, k ≤ 8 → (∀ i, i < k → f (a + i) = b / 2 ^ (7 - i) % 2) → b < 256 → val f a k = b / 2 ^ (8 - k)
  | 0, _, _, hb => by simp [val]; omega
  | k + 1, hk, h, hb => by
    have h1 := val_top b f a k (by omega) (fun i hi => h i (by omega)) hb
    show 2 * val f a k + f (a + k) = _
    rw [h1, h k (by omega), show 8 - k = (7 - k) + 1 by omega, Nat.pow_succ, ← Nat.div_div_eq_div_mul, show 8 - (k + 1) = 7 - k by omega]
    omega
def MayB (bs : List Nat) (n : Int) : Prop := 0 ≤ n ∧ n ≤ 131072 ∧ (bs.length : Int) = (n + 7) / 8 ∧ (n % 8 = 0 ∨ bs.getD (bs.length - 1) 0 % 2 ^ (8 - n.toNat % 8) = 0)
theorem may_pack {bs : List Nat} {n : Nat} (hb : ∀ i, bs.getD i 0 < 256) (h : MayB bs n) : bs = pack (unpack bs n) bs.length := by
  obtain ⟨_, _, h3, h4⟩ := h
  refine pack_ext rfl fun j hj => ?_
  by_cases hfull : 8 * j + 8 ≤ n
  · have := val_top (bs.getD j 0) (bt (unpack bs n)) (8 * j) 8 (Nat.le_refl _) (fun i hi => by
      rw [unpack_bt bs (by omega), show (8 * j + i) / 8 = j by omega, show (8 * j + i) % 8 = i by omega]) (hb j)
    unfold byteOf
    rw [this]
    simp
  · have hm : n % 8 ≠ 0 := by omega
    have hlast : j = bs.length - 1 := by omega
    have h5 : bs.getD j 0 % 2 ^ (8 - n % 8) = 0 := by
      rcases h4 with h4 | h4
      · omega
      · rw [hlast]; simpa using h4
    have h6 := val_top (bs.getD j 0) (bt (unpack bs n)) (8 * j) (n % 8) (by omega) (fun i hi => by
      rw [unpack_bt bs (by omega), show (8 * j + i) / 8 = j by omega, show (8 * j + i) % 8 = i by omega]) (hb j)
    have h7 : val (bt (unpack bs n)) (8 * j + n % 8) (8 - n % 8) = 0 := val_zero fun i _ => bt_end (by rw [unpack_len]; omega)
    rw [byte_split _ j (n % 8) (8 - n % 8) (by omega), h6, h7, Nat.add_zero]
    have := Nat.div_add_mod (bs.getD j 0) (2 ^ (8 - n % 8))
    rw [h5, Nat.add_zero] at this
    rw [Nat.mul_comm]
    exact this.symm
theorem pack_may {l : List Bool} (h : l.length ≤ 131072) : MayB (pack l (need l.length)) l.length := by
  refine ⟨by omega, by omega, by rw [pack_len]; unfold need; omega, ?_⟩
  by_cases hm : l.length % 8 = 0
  · exact .inl (by omega)
  · right
    have hn : need l.length - 1 = l.length / 8 := by unfold need; omega
    rw [pack_len, hn, pack_get l (by unfold need; omega), Int.toNat_natCast]
    have h7 : val (bt l) (8 * (l.length / 8) + l.length % 8) (8 - l.length % 8) = 0 := val_zero fun i _ => bt_end (by omega)
    rw [byte_split l (l.length / 8) (l.length % 8) (8 - l.length % 8) (by omega), h7, Nat.add_zero, Nat.mul_mod_left]
theorem unpack_pack (l : List Bool) {M : Nat} (h : l.length ≤ 8 * M) : unpack (pack l M) l.length = l := by
  refine List.ext_getElem (unpack_len _ _) fun i h1 h2 => ?_
  have hi : i < l.length := h2
  have hb : bt (unpack (pack l M) l.length) i = bt l i := by
    rw [unpack_bt _ hi, pack_get l (by omega)]
    rw [byte_split l (i / 8) (i % 8) (1 + (7 - i % 8)) (by omega), val_add, show 8 * (i / 8) + i % 8 = i by omega, Nat.pow_add, ← Nat.mul_assoc, Nat.pow_one]
    have hr := val_lt (bt_lt l) (i + 1) (7 - i % 8)
    have h1v : val (bt l) i 1 = bt l i := by simp [val]
    rw [h1v, ← Nat.add_assoc, ← Nat.add_mul, Nat.add_comm (_ * 2 ^ _), Nat.add_mul_div_right _ _ (Nat.two_pow_pos _), Nat.div_eq_of_lt hr, Nat.zero_add, Nat.add_comm, Nat.add_mul_mod_self_right]
    exact Nat.mod_eq_of_lt (bt_lt l i)
  unfold bt at hb
  simp only [List.getD_eq_getElem?_getD, List.getElem?_eq_getElem h1, List.getElem?_eq_getElem hi, Option.getD_some] at hb
  revert hb
  cases (unpack (pack l M) l.length)[i] <;> cases l[i] <;> simp
end Go.Proofs.YtcdlkdbnlomghaaDoor.Bi
