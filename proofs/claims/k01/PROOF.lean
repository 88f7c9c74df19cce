import PyProof.Rows.All
import Wide.All
import OpenK.AllK
import Wide.FinOn
import KE.KBits
import KE.BitLaws
import HandS.ForMost
import HandS.ForExc
import HandS.IsInst
import HandS.Wide
import HandS.WideBits
import HandS.WideMore
import HandS.Flow
import HandS.ExcInit
import HandS.Codes
import HandS.ExcField
import HandS.ExcIs
import KE.KExcIs
import KE.KIsAll
import PySem.Challenge.RW_wasmhost_k01_unsigned_and_signed
set_option Elab.async false
set_option linter.all false
set_option maxRecDepth 100000
set_option maxHeartbeats 4000000
namespace V
open PySem PySem.Spec PyProof.Rows L2
/-! ### a def that may be called by its name -/
structure Cal (P : Program) (w : World) (K : PySem.W.Frag) (mg : Str → Option Value) (base : Heap) (C : CXT) (k : Nat) (x : Str) (sp : Sp) : Prop where
  ex : ∃ (f : Addr) (fd : FuncData) (ps : List Str), FnOk P w K mg base C k f fd ps sp ∧ mg x = some (.ref f) ∧ PySem.W.keepIn K (.ref f) = true ∧ Binds K fd ps []
section
variable {P : Program} {w : World} {K : PySem.W.Frag} {mg : Str → Option Value} {base : Heap} {k : Nat} {x : Str} {sp sp' : Sp} {C : CXT}
theorem Cal.mono (c : Cal P w K mg base C k x sp) {j : Nat} (h : k ≤ j) : Cal P w K mg base C j x sp := by
  obtain ⟨f, fd, ps, F, m, kp, b⟩ := c.ex
  exact ⟨f, fd, ps, F.mono h, m, kp, b⟩
theorem Cal.imp (c : Cal P w K mg base C k x sp) (h : ∀ vs H Q E, sp' vs H Q E → sp vs H Q E) : Cal P w K mg base C k x sp' := by
  obtain ⟨f, fd, ps, F, m, kp, b⟩ := c.ex
  exact ⟨f, fd, ps, F.imp h, m, kp, b⟩
/-- a def as the top leaves it -/
structure Def (K : PySem.W.Frag) (mg : Str → Option Value) (x : Str) (st : Stmt) (ps : List Str) : Prop where
  ex : ∃ (f : Addr) (fd : FuncData), L2.Fun K x x st f fd ∧ mg x = some (.ref f) ∧ Binds K fd ps []
theorem Def.ok {st : Stmt} {N ps : List Str} (D : Def K mg x st ps) (S : FnScope N ps (defScope st)) (len : ∀ vs H Q E, sp vs H Q E → vs.length = ps.length)
    (hbody : ∀ (f : Addr) (cdv : Value) (A : Around) (outer : List Env) (s : Shared) (H : Hp) (vs : List V) (Q : VK) (E : XK), Room k (A.deeper (envOfC x (defScope st) s.heap.objs.size f cdv)) → sp vs H Q E →
      ∃ t, PSs (cxOf CX0 P w K mg base N x (defScope st) f cdv A outer s H E).nox (defBody st) t ∧ t { nx := fun _ H' => Q .non H', rt := Q } (start N vs) H) : Cal P w K mg base CX0 (k + 1) x sp := by
  obtain ⟨f, fd, F, m, b⟩ := D.ex
  exact ⟨f, fd, ps, F.ok S len (hbody f), m, F.kp, b⟩
theorem Def.okX {st : Stmt} {N ps : List Str} (D : Def K mg x st ps) (S : FnScope N ps (defScope st)) (len : ∀ vs H Q E, sp vs H Q E → vs.length = ps.length)
    (hbody : ∀ (f : Addr) (cdv : Value) (A : Around) (outer : List Env) (s : Shared) (H : Hp) (vs : List V) (Q : VK) (E : XK), Room k (A.deeper (envOfC x (defScope st) s.heap.objs.size f cdv)) → sp vs H Q E →
      ∃ t, PSs (cxOf (L2.CX P w) P w K mg base N x (defScope st) f cdv A outer s H E) (defBody st) t ∧ t { nx := fun _ H' => Q .non H', rt := Q } (start N vs) H) : Cal P w K mg base (L2.CX P w) (k + 1) x sp := by
  obtain ⟨f, fd, F, m, b⟩ := D.ex
  exact ⟨f, fd, ps, F.okX S len (hbody f), m, F.kp, b⟩
end
section
variable {X : Cx} {k j : Nat} {x : Str} {sp : Sp} {p pos : Pos} {e : Expr} {es : List Expr} {t : TA} {C : CXT} {E : XK}
theorem pe_cE (c : Cal X.prog X.w X.K X.mg X.base C k x sp) (hr : Room j X.A) (hk : k ≤ j) (hx : Passes C X E) (hg : Gl X x) (ha : PA X (e :: es) t)
    (hdb : (x == ("__debug__" : Str)) = false := by decide) (he : starEach (e :: es) X.env = (false, eval e X.env) :: starEach es X.env := by rfl) (hpl : (backTo pos (starEach es X.env)).any (·.1) = false := by rfl) :
    PE X (.Call (.Name x p) (e :: es) [] pos) (tCall sp [] E t) := by
  obtain ⟨f, fd, ps, F, hm, kp, b⟩ := c.ex
  exact pe_call F (hr.mono hk) hg hm kp b .nil hx ha hdb he hpl
theorem pe_cE0 (c : Cal X.prog X.w X.K X.mg X.base C k x sp) (hr : Room j X.A) (hk : k ≤ j) (hx : Passes C X E) (hg : Gl X x)
    (hdb : (x == ("__debug__" : Str)) = false := by decide) : PE X (.Call (.Name x p) [] [] pos) (tCall sp [] E tNil) := by
  obtain ⟨f, fd, ps, F, hm, kp, b⟩ := c.ex
  exact pe_call0 F (hr.mono hk) hg hm kp b .nil hx hdb
/-- a def that lets nothing out -/
theorem pe_c (c : Cal X.prog X.w X.K X.mg X.base CX0 k x sp) (hr : Room j X.A) (hk : k ≤ j) (hg : Gl X x) (ha : PA X (e :: es) t)
    (hdb : (x == ("__debug__" : Str)) = false := by decide) (he : starEach (e :: es) X.env = (false, eval e X.env) :: starEach es X.env := by rfl) (hpl : (backTo pos (starEach es X.env)).any (·.1) = false := by rfl) :
    PE X (.Call (.Name x p) (e :: es) [] pos) (tCall sp [] E0 t) := pe_cE c hr hk pass0 hg ha hdb he hpl
theorem pe_c0 (c : Cal X.prog X.w X.K X.mg X.base CX0 k x sp) (hr : Room j X.A) (hk : k ≤ j) (hg : Gl X x)
    (hdb : (x == ("__debug__" : Str)) = false := by decide) : PE X (.Call (.Name x p) [] [] pos) (tCall sp [] E0 tNil) := pe_cE0 c hr hk pass0 hg hdb
end
section
variable {X : Cx} {k j : Nat} {x : Str} {sp : Sp} {p pos : Pos} {e : Expr} {es : List Expr} {t : TA} {C : CXT} {E : L2.St → XK}
/-- a call within a try -/
theorem pe_cS (c : Cal X.prog X.w X.K X.mg X.base C k x sp) (hr : Room j X.A) (hk : k ≤ j) (hg : Gl X x) (hx : ∀ σ, PassesAt C X σ (E σ)) (ha : PA X (e :: es) t)
    (hdb : (x == ("__debug__" : Str)) = false := by decide) (he : starEach (e :: es) X.env = (false, eval e X.env) :: starEach es X.env := by rfl) (hpl : (backTo pos (starEach es X.env)).any (·.1) = false := by rfl) : PE X (.Call (.Name x p) (e :: es) [] pos) (tCallS sp E t) := by
  obtain ⟨f, fd, ps, F, hm, kp, b⟩ := c.ex
  exact pe_callS F (hr.mono hk) hg hm kp b hx ha hdb he hpl
end
theorem hu64 {A : Around} {k : Nat} (hr : Room k A) : A.units + 64 < cLine := by have := hr.un; omega
/-! ### numbers -/
theorem small64 {n : Nat} (h : n ≤ 1000000) : n ≤ sizeLine := Nat.le_trans h (by decide)
theorem small64' {n : Nat} (h : n ≤ 1000000) : n < sizeLine := Nat.lt_of_le_of_lt h (by decide)
theorem shl1 {j : Int} (h : 0 ≤ j) (h2 : j ≤ 100000) : CShl 1 j := by
  obtain ⟨n, rfl⟩ := Int.eq_ofNat_of_zero_le h
  exact shl_ok (n := 1) (by decide) (by omega)
theorem shlN {i j : Int} (hi : i.natAbs < 2 ^ 1000) (h : 0 ≤ j) (h2 : j ≤ 100000) : CShl i j := by
  obtain ⟨n, rfl⟩ := Int.eq_ofNat_of_zero_le h
  exact shl_ok (n := 1000) hi (by omega)
theorem pow_pos2 (k : Nat) : (0 : Int) < 2 ^ k := PySem.W.kbt_pos k
/-! ### heaps -/
theorem Same.new {H : Hp} {p : Addr} {o : HO} (h : H p = none) : Same H (upd H p o) := fun b x e => by
  rw [upd_ne (ne_of_none e h)]; exact e
theorem SqL.new {K : PySem.W.Frag} {H : Hp} {p : Addr} {xs : List V} : SqL K (upd H p (.lst xs)) p xs := .inl (.inl upd_same)
theorem SqT.new {K : PySem.W.Frag} {H : Hp} {p : Addr} {xs : List V} : SqT K (upd H p (.tup xs)) p xs := .inl (.inl upd_same)

/-! ### operators in the words that the readings like -/
section
variable {X : Cx}
/-- i << j, i of a usual size -/
theorem op_shlS : OpR X (binaryOp .LShift) (fun x y H Q => ∃ i j : Int, x = .int i ∧ y = .int j ∧ (i.natAbs < 2 ^ 1000 ∧ 0 ≤ j ∧ j ≤ 100000) ∧ Q (.int (i * 2 ^ j.toNat)) H) := by
  intro pins s σ H x y v u Q I rx ry h
  obtain ⟨i, j, rfl, rfl, ⟨c0, c1, c2⟩, q⟩ := h
  exact op_shlW pins s σ H _ _ v u Q I rx ry ⟨i, j, rfl, rfl, shlN c0 c1 c2, q⟩
theorem nat_small {i : Int} (h : i.natAbs ≤ 18446744073709551616) : i.natAbs < 2 ^ 1000 := Nat.lt_of_le_of_lt h (by decide +kernel)
/-- 1 << j -/
theorem op_shl1 : OpR X (binaryOp .LShift) (fun x y H Q => ∃ j : Int, x = .int 1 ∧ y = .int j ∧ (0 ≤ j ∧ j ≤ 100000) ∧ Q (.int (2 ^ j.toNat)) H) := by
  intro pins s σ H x y v u Q I rx ry h
  obtain ⟨j, rfl, rfl, ⟨c1, c2⟩, q⟩ := h
  refine op_shlW pins s σ H _ _ v u Q I rx ry ⟨1, j, rfl, rfl, shl1 c1 c2, ?_⟩
  show Q (.int (1 * 2 ^ j.toNat)) H
  rw [Int.one_mul]; exact q
end
/-- isinstance(x, T) of a value of a type of its own -/
theorem isi_int {K : PySem.W.Frag} {H : Hp} {i : Int} {Q : VK} (q : Q (.bl true) H) : rIsi K [.int i, .ty "int"] H Q := ⟨.int i, .ty "int", _, _, true, rfl, .ty _, .base (.int _), kit_ty (by decide +kernel), q⟩
theorem isi_int_bool {K : PySem.W.Frag} {H : Hp} {i : Int} {Q : VK} (q : Q (.bl false) H) : rIsi K [.int i, .ty "bool"] H Q := ⟨.int i, .ty "bool", _, _, false, rfl, .ty _, .base (.int _), kit_ty (by decide +kernel), q⟩
theorem isi_list {K : PySem.W.Frag} {H : Hp} {a : Addr} {xs : List V} {Q : VK} (h : H a = some (.lst xs)) (q : Q (.bl true) H) : rIsi K [.ref a, .ty "list"] H Q := ⟨.ref a, .ty "list", _, _, true, rfl, .ty _, .base (.lst h), kit_ty (by decide +kernel), q⟩
theorem isi_tup {K : PySem.W.Frag} {H : Hp} {a : Addr} {xs : List V} {Q : VK} (h : H a = some (.tup xs)) (q : Q (.bl true) H) : rIsi K [.ref a, .ty "tuple"] H Q := ⟨.ref a, .ty "tuple", _, _, true, rfl, .ty _, .base (.tup h), kit_ty (by decide +kernel), q⟩
theorem isi_str {K : PySem.W.Frag} {H : Hp} {z : Str} {Q : VK} (q : Q (.bl true) H) : rIsi K [.str z, .ty "str"] H Q := ⟨.str z, .ty "str", _, _, true, rfl, .ty _, .base (.str _), kit_ty (by decide +kernel), q⟩
/-! ### lists of ints -/
theorem at_ints {ns : List Int} {k : Nat} (h : k < ns.length) : atI (ns.map V.int) (k : Int) = some (.int (ns.getD k 0)) := atI_nat (by
  rw [List.getElem?_map, List.getElem?_eq_getElem h, List.getD_eq_getElem?_getD, List.getElem?_eq_getElem h]; rfl)
theorem cut_to (xs : List V) (k : Nat) : cutV xs none (some (k : Int)) = xs.take k := by
  unfold cutV
  rw [HT.sIx_nat, HT.sIx_none, List.drop_zero, Nat.sub_zero]
  rcases Nat.le_total k xs.length with h | h
  · rw [Nat.min_eq_left h]
  · rw [Nat.min_eq_right h, List.take_length, List.take_of_length_le h]
theorem cut_from (xs : List V) (k : Nat) : cutV xs (some (k : Int)) none = xs.drop k := by
  unfold cutV
  rw [HT.sIx_nat, HT.sIx_none]
  rcases Nat.le_total k xs.length with h | h
  · rw [Nat.min_eq_left h]; exact List.take_of_length_le (by rw [List.length_drop]; exact Nat.le_refl _)
  · rw [Nat.min_eq_right h, Nat.sub_self, List.take_zero, List.drop_eq_nil_of_le h]
/-! ### a reading, gone through as far as it goes by sight -/
local macro_rules | `(tactic| walk_at "side") => `(tactic| first
  | (show _ = _; rfl)
  | (show (0 : Int) < _; first | omega | exact pow_pos2 _)
  | (show (0 : Int) ≤ _; omega)
  | (show (0 : Int) ≤ _ ∧ _; constructor <;> omega)
  | (show (0 : Int) < _ ∧ _; constructor <;> omega)
  | (show (_ < _ ∧ _ < _) ∨ (_ < _ ∧ _ < _); first | exact .inl ⟨by omega, by omega⟩ | exact .inr ⟨by omega, by omega⟩))
local macro_rules | `(tactic| walk_at "loop") => `(tactic| (show ∃ W : (Nat → Nat → L2.St → Hp → Prop), _))
local macro_rules | `(tactic| walk_at "go1") => `(tactic| (fail_if_success walk_at "loop"); first
  | refine And.intro (show (_ : Int) ≤ _ by omega) ?_
  | refine ⟨_, rfl, ?_⟩
  | refine ⟨_, _, rfl, rfl, ?_⟩
  | refine ⟨_, rfl, rfl, ?_⟩
  | refine .inl ⟨_, rfl, ?_⟩
  | refine ⟨_, .ty "int", _, _, true, rfl, .ty _, .base (.int _), kit_ty (by decide +kernel), ?_⟩
  | refine ⟨_, .ty "bool", _, _, false, rfl, .ty _, .base (.int _), kit_ty (by decide +kernel), ?_⟩
  | refine ⟨_, .ty "bool", _, _, false, rfl, .ty _, .base (.str _), kit_ty (by decide +kernel), ?_⟩
  | refine ⟨_, .ty "str", _, _, true, rfl, .ty _, .base (.str _), kit_ty (by decide +kernel), ?_⟩
  | refine ⟨_, .ty "list", _, _, true, rfl, .ty _, .base (.lst (by assumption)), kit_ty (by decide +kernel), ?_⟩
  | refine ⟨_, .ty "tuple", _, _, true, rfl, .ty _, .base (.tup (by assumption)), kit_ty (by decide +kernel), ?_⟩
  | refine ⟨_, _, rfl, .inl (by assumption), ?_⟩
  | refine ⟨_, _, rfl, .inr (by assumption), ?_⟩
  | refine ⟨_, _, rfl, ?_⟩
  | refine ⟨_, _, _, _, rfl, rfl, by assumption, at_ints (by omega), ?_⟩
  | refine ⟨_, _, _, _, rfl, rfl, by assumption, rfl, ?_⟩
  | refine iteF ?_
  | refine iteT ?_
  | refine iteNS rfl ?_
  | (refine And.intro ?h1 ?h2; case h1 => first
    | walk_at "side"
    | assumption
    | (show (_ : Nat) ≤ _; omega)
    | (show (_ : Int) ≤ _; omega)
    | (show (_ : Int) < _; omega)
    | (show 0 ≤ sizeLine; decide)
    | (show 1 ≤ sizeLine; decide)
    | (show 2 ≤ sizeLine; decide)
    | (show 3 ≤ sizeLine; decide)
    | (show 4 ≤ sizeLine; decide)
    | (show (_ : Nat) ≤ _; decide)))
local macro_rules | `(tactic| walk_at "go") => `(tactic| repeat walk_at "go1")
/-! ### tests that read alone, loops -/
theorem tor_b {t u : TT} {σ : L2.St} {H : Hp} {Q : Bool → Hp → Prop} (b1 b2 : Bool) (h1 : ∀ Q, Q b1 H → t σ H Q) (h2 : ∀ Q, Q b2 H → u σ H Q) (q : Q (b1 || b2) H) : tOr t u σ H Q := by
  refine h1 _ ?_
  cases b1 with
  | true => rw [if_pos rfl]; exact q
  | false => rw [if_neg (by decide)]; exact h2 _ q
theorem tand_b {t u : TT} {σ : L2.St} {H : Hp} {Q : Bool → Hp → Prop} (b1 b2 : Bool) (h1 : ∀ Q, Q b1 H → t σ H Q) (h2 : ∀ Q, Q b2 H → u σ H Q) (q : Q (b1 && b2) H) : tAnd t u σ H Q := by
  refine h1 _ ?_
  cases b1 with
  | true => rw [if_pos rfl]; exact h2 _ q
  | false => rw [if_neg (by decide)]; exact q
theorem while_ev {c : TT} {tb : TS} {D : Ends} {σ : L2.St} {H : Hp} (Pv : L2.St → Hp → Prop) (μ : L2.St → Hp → Nat) (h0 : Pv σ H)
    (hs : ∀ σ H, Pv σ H → ∃ b : Bool, (∀ Q, Q b H → c σ H Q) ∧ (b = true → tb { D with nx := fun σ' H' => Pv σ' H' ∧ μ σ' H' < μ σ H, ct := fun σ' H' => Pv σ' H' ∧ μ σ' H' < μ σ H, bk := D.nx } σ H) ∧ (b = false → D.nx σ H)) : tWhile c tb D σ H := by
  refine ⟨fun m σ H => m = μ σ H ∧ Pv σ H, ⟨_, rfl, h0⟩, ?_⟩
  rintro m σ H ⟨rfl, p⟩
  obtain ⟨b, h1, h2, h3⟩ := hs σ H p
  refine h1 _ ?_
  cases b with
  | true => exact ⟨_, fun σ' H' ⟨p', l⟩ => ⟨_, l, rfl, p'⟩, h2 rfl⟩
  | false => exact h3 rfl
/-- the loops' bookkeeping, with what follows and what returns told apart -/
theorem for_listD {K : PySem.W.Frag} {a : Addr} {xs : List V} {g : TG} {tb : TS} {nx : L2.St → Hp → Prop} {rt : VK} {σ : L2.St} {H : Hp} (Pv : Nat → L2.St → Hp → Prop) (h0 : Pv 0 σ H) (hl : ∀ i σ H, i ≤ xs.length → Pv i σ H → SqL K H a xs)
    (hs : ∀ i x σ H, xs[i]? = some x → Pv i σ H → g x σ H fun σ2 H2 => tb { nx := Pv (i + 1), rt := rt, bk := nx, ct := Pv (i + 1) } σ2 H2) (hd : ∀ σ H, Pv xs.length σ H → nx σ H) :
    ∃ W : Nat → Nat → L2.St → Hp → Prop, (∃ m, W 0 m σ H) ∧ ∀ i m σ H, W i m σ H → ((Itl K a).stop i H ∧ nx σ H) ∨ ((Itl K a).go i H ∧ ∃ N : L2.St → Hp → Prop, (∀ σ' H', N σ' H' → ∃ m', m' < m ∧ W (i + 1) m' σ' H') ∧
      ∀ x H', (Itl K a).yld i H x H' → g x σ H' fun σ2 H2 => tb { nx := N, rt := rt, bk := nx, ct := N } σ2 H2) := for_list (D := { nx := nx, rt := rt }) Pv h0 hl hs hd
theorem for_rangeD {lo : Int} {n : Nat} {g : TG} {tb : TS} {nx : L2.St → Hp → Prop} {rt : VK} {σ : L2.St} {H : Hp} (Pv : Nat → L2.St → Hp → Prop) (h0 : Pv 0 σ H)
    (hs : ∀ i σ H, i < n → Pv i σ H → g (.int (lo + i)) σ H fun σ2 H2 => tb { nx := Pv (i + 1), rt := rt, bk := nx, ct := Pv (i + 1) } σ2 H2) (hd : ∀ σ H, Pv n σ H → nx σ H) :
    ∃ W : Nat → Nat → L2.St → Hp → Prop, (∃ m, W 0 m σ H) ∧ ∀ i m σ H, W i m σ H → ((Itr lo n).stop i H ∧ nx σ H) ∨ ((Itr lo n).go i H ∧ ∃ N : L2.St → Hp → Prop, (∀ σ' H', N σ' H' → ∃ m', m' < m ∧ W (i + 1) m' σ' H') ∧
      ∀ x H', (Itr lo n).yld i H x H' → g x σ H' fun σ2 H2 => tb { nx := N, rt := rt, bk := nx, ct := N } σ2 H2) := for_range (D := { nx := nx, rt := rt }) Pv h0 hs hd
/-! ### a comprehension that makes f of each item -/
theorem lc_map {K : PySem.W.Frag} {a : Addr} {xs : List V} {j : Nat} {te : TE} {σ : L2.St} {H1 : Hp} {D : Addr} {Qd : Hp → Prop} (f : V → V) (hD : H1 D = none) (hS : SqL K H1 a xs) (hn : xs.length ≤ 100000)
    (hs : ∀ x H Q, x ∈ xs → Same H1 H → (∀ H', Same H H' → Q (f x) H') → te ((σ.set j none).set j (some x)) H Q) (hd : ∀ H, Same H1 H → H D = some (.lst (xs.map f)) → Qd H) :
    ∃ W : Nat → Nat → Hp → Prop, (∃ m, W 0 m (upd H1 D (.lst []))) ∧ ∀ i m H, W i m H →
      ((Itl K a).stop i H ∧ Qd H) ∨ ((Itl K a).go i H ∧ ∃ Nx : Hp → Prop, (∀ H', Nx H' → ∃ m', m' < m ∧ W (i + 1) m' H') ∧ ∀ x H', (Itl K a).yld i H x H' → gName j x (wipe σ [j]) H' fun σ2 H2 => wipe σ2 [j] = wipe σ [j] ∧ tYes σ2 H2 fun b H3 =>
        if b = true then te σ2 H3 fun y H4 => ∃ acc, H4 D = some (.lst acc) ∧ acc.length < sizeLine ∧ Nx (upd H4 D (.lst (acc ++ [y]))) else Nx H3) := by
  refine lc_list (xs := xs) (fun i H => Same H1 H ∧ H D = some (.lst ((xs.take i).map f))) ⟨Same.new hD, by rw [upd_same]; rfl⟩ (fun i H _ h => h.1.seq hS) (fun i x H hx h => ?_) (fun H h => hd H h.1 (by rw [List.take_length] at h; exact h.2))
  have hi : i < xs.length := (List.getElem?_eq_some_iff.mp hx).1
  refine ⟨?_, ?_⟩
  · show (((σ.set j none).set j (some x)).set j none) = σ.set j none
    rw [List.set_set, List.set_set]
  · simp only [tYes, if_true]
    refine hs x H _ (List.mem_of_getElem? hx) h.1 fun H' s' => ?_
    refine ⟨_, s' _ _ h.2, ?_, fun b o e => ?_, ?_⟩
    · rw [List.length_map, List.length_take]; exact small64' (by omega)
    · have nb : b ≠ D := fun z => by rw [z, hD] at e; cases e
      rw [upd_ne nb]; exact s' _ _ (h.1 _ _ e)
    · rw [upd_same, List.take_add_one, hx, List.map_append]; rfl

/-! ### the text by places -/
def top (i : Nat) : Stmt := PySem.Challenge.pw_wasmhost_k01_unsigned_and_signed.main.body.getD i (.Pass ⟨0, 0, 0, 0⟩)
abbrev s_width : Stmt := top 1
abbrev s_unsigned : Stmt := top 2
abbrev s_extend : Stmt := top 3
abbrev s_signed : Stmt := top 4
abbrev s__law_is_integer : Stmt := top 6
abbrev s__law_fits : Stmt := top 7
abbrev s__law_one : Stmt := top 8
abbrev s_law : Stmt := top 9
theorem sc_width : FnScope ["kind"] ["kind"] (defScope s_width) := ⟨rfl, rfl, rfl, by decide +kernel, rfl, by decide +kernel, by decide +kernel⟩
theorem sc_unsigned : FnScope ["kind", "number"] ["kind", "number"] (defScope s_unsigned) := ⟨rfl, rfl, rfl, by decide +kernel, rfl, by decide +kernel, by decide +kernel⟩
theorem sc_extend : FnScope ["number", "bits", "low"] ["number", "bits"] (defScope s_extend) := ⟨rfl, rfl, rfl, by decide +kernel, rfl, by decide +kernel, by decide +kernel⟩
theorem sc_signed : FnScope ["kind", "number"] ["kind", "number"] (defScope s_signed) := ⟨rfl, rfl, rfl, by decide +kernel, rfl, by decide +kernel, by decide +kernel⟩
theorem sc__law_is_integer : FnScope ["actual"] ["actual"] (defScope s__law_is_integer) := ⟨rfl, rfl, rfl, by decide +kernel, rfl, by decide +kernel, by decide +kernel⟩
theorem sc__law_fits : FnScope ["actual", "number", "bits", "least"] ["actual", "number", "bits", "least"] (defScope s__law_fits) := ⟨rfl, rfl, rfl, by decide +kernel, rfl, by decide +kernel, by decide +kernel⟩
theorem sc__law_one : FnScope ["number", "kind", "bits", "least", "low", "value"] ["number", "kind", "bits"] (defScope s__law_one) := ⟨rfl, rfl, rfl, by decide +kernel, rfl, by decide +kernel, by decide +kernel⟩
theorem sc_law : FnScope ["script", "cells", "k", "number", "bits", "edge", "cell"] ["script"] (defScope s_law) := ⟨rfl, rfl, rfl, by decide +kernel, rfl, by decide +kernel, by decide +kernel⟩
/-- where the own classes stand -/
structure Cs where
  u : Unit
/-- what the top leaves: built-in names that nothing binds, own classes -/
structure Tp (w : World) (K : PySem.W.Frag) (mg : Str → Option Value) (cs : Cs) : Prop where
  m_bool : mg "bool" = none
  m_int : mg "int" = none
  m_isinstance : mg "isinstance" = none
  m_len : mg "len" = none
  m_range : mg "range" = none
/-! ### the bits and bytes of integers -/
def widN (kd : Str) : Nat := if kd = "i32" then 32 else 64
theorem widN_or (kd : Str) : widN kd = 32 ∨ widN kd = 64 := by unfold widN; split <;> simp
/-- the lowest b bits, read with a sign -/
def sgn (n : Int) (b : Nat) : Int := if n % 2 ^ b / 2 ^ (b - 1) = 0 then n % 2 ^ b else n % 2 ^ b - 2 ^ b
def sp_width (K : PySem.W.Frag) (cs : Cs) : Sp := fun vs H Q _ => ∃ kd : Str, vs = [.str kd] ∧ Q (.int (widN kd)) H
def sp_unsigned (K : PySem.W.Frag) (cs : Cs) : Sp := fun vs H Q _ => ∃ (kd : Str) (n : Int), vs = [.str kd, .int n] ∧ Q (.int (n % 2 ^ widN kd)) H
def sp_extend (K : PySem.W.Frag) (cs : Cs) : Sp := fun vs H Q _ => ∃ (n : Int) (b : Nat), vs = [.int n, .int b] ∧ 1 ≤ b ∧ b ≤ 64 ∧ Q (.int (sgn n b)) H
def sp_signed (K : PySem.W.Frag) (cs : Cs) : Sp := fun vs H Q _ => ∃ (kd : Str) (n : Int), vs = [.str kd, .int n] ∧ Q (.int (sgn n (widN kd))) H
section
variable {P : Program} {w : World} {K : PySem.W.Frag} {mg : Str → Option Value} {base : Heap} {cs : Cs}
theorem c_width (D : Def K mg "width" s_width ["kind"]) (T : Tp w K mg cs)  : Cal P w K mg base CX0 1 "width" (sp_width K cs) := by
  refine D.ok sc_width (fun vs H Q E h => ?_) (fun f cdv A outer s H vs Q E hr h => ?_)
  · obtain ⟨kd, rfl, _⟩ := h; rfl
  · obtain ⟨kd, rfl, q⟩ := h
    refine ⟨_, (pss_cons (ps_if (pt_cmpR op_eq (pv 0) pe_str (by first | rfl | exact nomark _)) (pss_one (ps_ret pe_int)) pss_nil)
      (pss_one (ps_ret pe_int))), ?_⟩
    refine ⟨_, rfl, rfl, _, rfl, ite2 (fun c => ?_) (fun c => ?_)⟩
    · have e : kd = "i32" := V.str.inj (of_decide_eq_true c)
      have e2 : (widN kd : Int) = 32 := by unfold widN; rw [if_pos e]; rfl
      rw [e2] at q; exact q
    · have e : ¬ kd = "i32" := fun z => c (decide_eq_true (congrArg V.str z))
      have e2 : (widN kd : Int) = 64 := by unfold widN; rw [if_neg e]; rfl
      rw [e2] at q; exact q
theorem c_unsigned (D : Def K mg "unsigned" s_unsigned ["kind", "number"]) (T : Tp w K mg cs) (c_width : Cal P w K mg base CX0 1 "width" (sp_width K cs)) : Cal P w K mg base CX0 2 "unsigned" (sp_unsigned K cs) := by
  refine D.ok sc_unsigned (fun vs H Q E h => ?_) (fun f cdv A outer s H vs Q E hr h => ?_)
  · obtain ⟨kd, n, rfl, _⟩ := h; rfl
  · obtain ⟨kd, n, rfl, q⟩ := h
    refine ⟨_, (pss_one (ps_ret (pe_op op_and (pv 1) (pe_op op_sub (pe_op op_shl1 pe_int (pe_c c_width hr (by decide) (by rfl) (pa_cons (pv 0) pa_nil))) pe_int)))), ?_⟩
    have hw := widN_or kd
    walk_at "go"
    simp only [Int.toNat_natCast, PySem.W.kbt_mask]; exact q
theorem c_extend (D : Def K mg "extend" s_extend ["number", "bits"]) (T : Tp w K mg cs)  : Cal P w K mg base CX0 1 "extend" (sp_extend K cs) := by
  refine D.ok sc_extend (fun vs H Q E h => ?_) (fun f cdv A outer s H vs Q E hr h => ?_)
  · obtain ⟨n, b, rfl, _⟩ := h; rfl
  · obtain ⟨n, b, rfl, h1, h2, q⟩ := h
    refine ⟨_, (pss_cons (ps_set (i := 2) sc_extend.nd rfl (by first | exact Or.inl rfl | exact Or.inr rfl) (pe_op op_and (pv 0) (pe_op op_sub (pe_op op_shl1 pe_int (pv 1)) pe_int)))
      (pss_cons (ps_if (pt_cmpR op_eq (pe_op op_shr (pv 2) (pe_op op_sub (pv 1) pe_int)) pe_int (by first | rfl | exact nomark _)) (pss_one (ps_ret (pv 2))) pss_nil)
      (pss_one (ps_ret (pe_op op_sub (pv 2) (pe_op op_shl1 pe_int (pv 1))))))), ?_⟩
    have e1 : ((b : Int) - 1).toNat = b - 1 := by omega
    walk_at "go"
    simp only [Int.toNat_natCast, PySem.W.kbt_mask, e1]
    unfold sgn at q
    refine ite2 (fun c => ?_) (fun c => ?_)
    · have e : n % 2 ^ b / 2 ^ (b - 1) = 0 := V.int.inj (of_decide_eq_true c)
      rw [if_pos e] at q
      exact ⟨_, rfl, q⟩
    · have e : ¬ n % 2 ^ b / 2 ^ (b - 1) = 0 := fun z => c (decide_eq_true (congrArg V.int z))
      rw [if_neg e] at q
      walk_at "go"
      exact q
theorem c_signed (D : Def K mg "signed" s_signed ["kind", "number"]) (T : Tp w K mg cs) (c_extend : Cal P w K mg base CX0 1 "extend" (sp_extend K cs)) (c_width : Cal P w K mg base CX0 1 "width" (sp_width K cs)) : Cal P w K mg base CX0 2 "signed" (sp_signed K cs) := by
  refine D.ok sc_signed (fun vs H Q E h => ?_) (fun f cdv A outer s H vs Q E hr h => ?_)
  · obtain ⟨kd, n, rfl, _⟩ := h; rfl
  · obtain ⟨kd, n, rfl, q⟩ := h
    refine ⟨_, (pss_one (ps_ret (pe_c c_extend hr (by decide) (by rfl) (pa_cons (pv 1) (pa_cons (pe_c c_width hr (by decide) (by rfl) (pa_cons (pv 0) pa_nil)) pa_nil))))), ?_⟩
    have hw := widN_or kd
    exact ⟨_, rfl, _, rfl, kd, rfl, n, widN kd, rfl, by omega, by omega, q⟩
end

/-! ### the law's own helpers -/
def sp__law_is_integer (K : PySem.W.Frag) (cs : Cs) : Sp := fun vs H Q _ => ∃ n : Int, vs = [.int n] ∧ Q (.bl true) H
/-- a number that lies where it must and differs from n by a multiple of 2 ^ b is told to fit -/
def sp__law_fits (K : PySem.W.Frag) (cs : Cs) : Sp := fun vs H Q _ => ∃ (a n : Int) (b : Nat) (l : Int), vs = [.int a, .int n, .int b, .int l] ∧ b ≤ 64 ∧ l ≤ a ∧ a < l + 2 ^ b ∧ (a - n) % 2 ^ b = 0 ∧ Q (.bl true) H
def sp__law_one (K : PySem.W.Frag) (cs : Cs) : Sp := fun vs H Q _ => ∃ (n : Int) (kd : Str), vs = [.int n, .str kd, .int (widN kd)] ∧ Q (.bl true) H
def sp_lawK (K : PySem.W.Frag) : Sp := fun vs H Q _ => ∃ (a : Addr) (ns : List Int), vs = [.ref a] ∧ SqL K H a (ns.map V.int) ∧ ns.length ≤ 63 ∧ ∀ H', Q (.bl true) H'
abbrev sp_law (K : PySem.W.Frag) (_ : Cs) : Sp := sp_lawK K
theorem sgn_fits (n : Int) (b : Nat) (h : 1 ≤ b) : -(2 ^ (b - 1)) ≤ sgn n b ∧ sgn n b < -(2 ^ (b - 1)) + 2 ^ b ∧ (sgn n b - n) % 2 ^ b = 0 := by
  obtain ⟨c, rfl⟩ : ∃ c, b = c + 1 := ⟨b - 1, by omega⟩
  have p := pow_pos2 c
  have e2 : (2 : Int) ^ (c + 1) = 2 ^ c * 2 := Int.pow_succ 2 c
  have m0 : 0 ≤ n % 2 ^ (c + 1) := Int.emod_nonneg _ (by omega)
  have m1 : n % 2 ^ (c + 1) < 2 ^ (c + 1) := Int.emod_lt_of_pos _ (by omega)
  have me : (n % 2 ^ (c + 1) - n) % 2 ^ (c + 1) = 0 := by rw [Int.sub_emod, Int.emod_emod_of_dvd _ (Int.dvd_refl _), Int.sub_self, Int.zero_emod]
  have me2 : (n % 2 ^ (c + 1) - 2 ^ (c + 1) - n) % 2 ^ (c + 1) = 0 := by
    rw [show n % 2 ^ (c + 1) - 2 ^ (c + 1) - n = (n % 2 ^ (c + 1) - n) - 2 ^ (c + 1) by omega, Int.sub_emod, me, Int.emod_self]; rfl
  unfold sgn
  rw [Nat.add_sub_cancel]
  split
  · rename_i hz
    have : n % 2 ^ (c + 1) < 2 ^ c := by
      rcases Int.lt_or_le (n % 2 ^ (c + 1)) (2 ^ c) with h | h
      · exact h
      · have := Int.le_ediv_of_mul_le p (show 1 * 2 ^ c ≤ n % 2 ^ (c + 1) by omega)
        omega
    omega
  · rename_i hz
    have : 2 ^ c ≤ n % 2 ^ (c + 1) := by
      rcases Int.lt_or_le (n % 2 ^ (c + 1)) (2 ^ c) with h | h
      · exact absurd (Int.ediv_eq_zero_of_lt m0 h) hz
      · exact h
    omega
theorem mod_fits (n : Int) (b : Nat) : 0 ≤ n % 2 ^ b ∧ n % 2 ^ b < 0 + 2 ^ b ∧ (n % 2 ^ b - n) % 2 ^ b = 0 := by
  have p := pow_pos2 b
  have m0 : 0 ≤ n % 2 ^ b := Int.emod_nonneg _ (by omega)
  have m1 : n % 2 ^ b < 2 ^ b := Int.emod_lt_of_pos _ (by omega)
  have me : (n % 2 ^ b - n) % 2 ^ b = 0 := by rw [Int.sub_emod, Int.emod_emod_of_dvd _ (Int.dvd_refl _), Int.sub_self, Int.zero_emod]
  omega
theorem fits_trans {a n m q : Int} (h1 : (a - n) % q = 0) (h2 : (n - m) % q = 0) : (a - m) % q = 0 := by
  rw [show a - m = (a - n) + (n - m) by omega, Int.add_emod, h1, h2]; simp
section
variable {P : Program} {w : World} {K : PySem.W.Frag} {mg : Str → Option Value} {base : Heap} {cs : Cs}
theorem c__law_is_integer (D : Def K mg "_law_is_integer" s__law_is_integer ["actual"]) (T : Tp w K mg cs)  : Cal P w K mg base CX0 1 "_law_is_integer" (sp__law_is_integer K cs) := by
  refine D.ok sc__law_is_integer (fun vs H Q E h => ?_) (fun f cdv A outer s H vs Q E hr h => ?_)
  · obtain ⟨n, rfl, _⟩ := h; rfl
  · obtain ⟨n, rfl, q⟩ := h
    refine ⟨_, (pss_one (ps_ret (pe_and (pe_callB call_isi (by rfl) T.m_isinstance (by decide +kernel) (pa_cons (pv 0) (pa_cons (pe_bltn (v := .ty "int") (u := .type "int") (by rfl) T.m_int (by decide +kernel) rfl) pa_nil))) (pe_one (pe_not (pe_callB call_isi (by rfl) T.m_isinstance (by decide +kernel) (pa_cons (pv 0) (pa_cons (pe_bltn (v := .ty "bool") (u := .type "bool") (by rfl) T.m_bool (by decide +kernel) rfl) pa_nil)))))))), ?_⟩
    walk_at "go"
    exact q
theorem c__law_fits (D : Def K mg "_law_fits" s__law_fits ["actual", "number", "bits", "least"]) (T : Tp w K mg cs) (c__law_is_integer : Cal P w K mg base CX0 1 "_law_is_integer" (sp__law_is_integer K cs)) : Cal P w K mg base CX0 2 "_law_fits" (sp__law_fits K cs) := by
  refine D.ok sc__law_fits (fun vs H Q E h => ?_) (fun f cdv A outer s H vs Q E hr h => ?_)
  · obtain ⟨a, n, b, l, rfl, _⟩ := h; rfl
  · obtain ⟨a, n, b, l, rfl, hb, h1, h2, h3, q⟩ := h
    refine ⟨_, (pss_cons (ps_if (PW.pt (pw_or (pt_not (pt_val (pe_c c__law_is_integer hr (by decide) (by rfl) (pa_cons (pv 0) pa_nil)))) (pw_or (pt_cmpR op_lt (pv 0) (pv 3) (by first | rfl | exact nomark _)) (pw_or1 (pt_cmpR op_ge (pv 0) (pe_op op_add (pv 3) (pe_op op_shl1 pe_int (pv 2))) (by first | rfl | exact nomark _)))))) (pss_one (ps_ret pe_bl)) pss_nil)
      (pss_one (ps_ret (pe_cmpR op_eq (pe_op op_mod (pe_callTy call_int1 (by rfl) T.m_int (by decide +kernel) (pa_cons (pe_op op_sub (pv 0) (pv 1)) pa_nil)) (pe_op op_shl1 pe_int (pv 2))) pe_int (by first | rfl | exact nomark _))))), ?_⟩
    have p := pow_pos2 b
    walk_at "go"
    simp only [decide_eq_false (show ¬ a < l by omega)]
    walk_at "go"
    simp only [Int.toNat_natCast, decide_eq_false (show ¬ l + 2 ^ b ≤ a by omega)]
    walk_at "go"
    simp only [Int.toNat_natCast, h3]
    exact q
theorem c__law_one (D : Def K mg "_law_one" s__law_one ["number", "kind", "bits"]) (T : Tp w K mg cs) (c_unsigned : Cal P w K mg base CX0 2 "unsigned" (sp_unsigned K cs)) (c_signed : Cal P w K mg base CX0 2 "signed" (sp_signed K cs)) (c__law_fits : Cal P w K mg base CX0 2 "_law_fits" (sp__law_fits K cs)) (c__law_is_integer : Cal P w K mg base CX0 1 "_law_is_integer" (sp__law_is_integer K cs)) (c_width : Cal P w K mg base CX0 1 "width" (sp_width K cs)) : Cal P w K mg base CX0 3 "_law_one" (sp__law_one K cs) := by
  refine D.ok sc__law_one (fun vs H Q E h => ?_) (fun f cdv A outer s H vs Q E hr h => ?_)
  · obtain ⟨n, kd, rfl, _⟩ := h; rfl
  · obtain ⟨n, kd, rfl, q⟩ := h
    refine ⟨_, (pss_cons (ps_set (i := 3) sc__law_one.nd rfl (by first | exact Or.inl rfl | exact Or.inr rfl) (pe_un un_neg (pe_op op_shl1 pe_int (pe_op op_sub (pv 2) pe_int))))
      (pss_cons (ps_if (PW.pt (pw_or (pt_not (pt_val (pe_c c__law_is_integer hr (by decide) (by rfl) (pa_cons (pe_c c_width hr (by decide) (by rfl) (pa_cons (pv 1) pa_nil)) pa_nil)))) (pw_or1 (pt_cmpR op_ne (pe_c c_width hr (by decide) (by rfl) (pa_cons (pv 1) pa_nil)) (pv 2) (by first | rfl | exact nomark _))))) (pss_one (ps_ret pe_bl)) pss_nil)
      (pss_cons (ps_set (i := 4) sc__law_one.nd rfl (by first | exact Or.inl rfl | exact Or.inr rfl) (pe_c c_unsigned hr (by decide) (by rfl) (pa_cons (pv 1) (pa_cons (pv 0) pa_nil))))
      (pss_cons (ps_set (i := 5) sc__law_one.nd rfl (by first | exact Or.inl rfl | exact Or.inr rfl) (pe_c c_signed hr (by decide) (by rfl) (pa_cons (pv 1) (pa_cons (pv 0) pa_nil))))
      (pss_cons (ps_if (PW.pt (pw_or (pt_not (pt_val (pe_c c__law_fits hr (by decide) (by rfl) (pa_cons (pv 4) (pa_cons (pv 0) (pa_cons (pv 2) (pa_cons pe_int pa_nil))))))) (pw_or1 (pt_not (pt_val (pe_c c__law_fits hr (by decide) (by rfl) (pa_cons (pv 5) (pa_cons (pv 0) (pa_cons (pv 2) (pa_cons (pv 3) pa_nil)))))))))) (pss_one (ps_ret pe_bl)) pss_nil)
      (pss_cons (ps_if (pt_not (pt_val (pe_c c__law_fits hr (by decide) (by rfl) (pa_cons (pe_c c_signed hr (by decide) (by rfl) (pa_cons (pv 1) (pa_cons (pv 4) pa_nil))) (pa_cons (pv 0) (pa_cons (pv 2) (pa_cons (pv 3) pa_nil))))))) (pss_one (ps_ret pe_bl)) pss_nil)
      (pss_one (ps_ret (pe_c c__law_fits hr (by decide) (by rfl) (pa_cons (pe_c c_unsigned hr (by decide) (by rfl) (pa_cons (pv 1) (pa_cons (pv 5) pa_nil))) (pa_cons (pv 0) (pa_cons (pv 2) (pa_cons pe_int pa_nil))))))))))))), ?_⟩
    have hw := widN_or kd
    have hw1 : 1 ≤ widN kd := by omega
    have hw2 : widN kd ≤ 64 := by omega
    have e1 : ((widN kd : Int) - 1).toNat = widN kd - 1 := by omega
    obtain ⟨u1, u2, u3⟩ := mod_fits n (widN kd)
    obtain ⟨s1, s2, s3⟩ := sgn_fits n (widN kd) hw1
    obtain ⟨t1, t2, t3⟩ := sgn_fits (n % 2 ^ widN kd) (widN kd) hw1
    obtain ⟨v1, v2, v3⟩ := mod_fits (sgn n (widN kd)) (widN kd)
    walk_at "go"
    refine ⟨_, n, widN kd, 0, rfl, hw2, u1, u2, u3, ?_⟩
    walk_at "go"
    refine ⟨_, n, widN kd, _, rfl, hw2, ?_, ?_, s3, ?_⟩
    · simp only [e1]; exact s1
    · simp only [e1]; exact s2
    walk_at "go"
    refine ⟨_, n, widN kd, _, rfl, hw2, ?_, ?_, fits_trans t3 u3, ?_⟩
    · simp only [e1]; exact t1
    · simp only [e1]; exact t2
    walk_at "go"
    exact ⟨_, n, widN kd, 0, rfl, hw2, v1, v2, fits_trans v3 s3, q⟩
theorem c_law {f : Addr} {fd : FuncData} (D : L2.Fun K "law" "law" s_law f fd) (T : Tp w K mg cs) (c__law_fits : Cal P w K mg base CX0 2 "_law_fits" (sp__law_fits K cs)) (c__law_one : Cal P w K mg base CX0 3 "_law_one" (sp__law_one K cs)) (c_extend : Cal P w K mg base CX0 1 "extend" (sp_extend K cs)) : FnOk P w K mg base CX0 4 f fd ["script"] (sp_law K cs) := by
  refine D.ok sc_law (fun vs H Q E h => ?_) (fun cdv A outer s H vs Q E hr h => ?_)
  · obtain ⟨a, ns, rfl, _⟩ := h; rfl
  · obtain ⟨a, ns, rfl, hS, hlen, q⟩ := h
    refine ⟨_, (pss_cons (ps_setLc (i := 1) (own := [("cell", 6)]) (g := gName 6) (tt := tYes) (by rfl) sc_law.nd rfl rfl (sw_true rfl rfl rfl (by decide +kernel)) (pi_list (pe_slice sl_list (pv 0) po_none (po_some pe_int))) (blkOk_by (own := [("cell", 6)]) (N := ["script", "cells", "k", "number", "bits", "edge", "cell"]) (sc := defScope s_law) (by decide +kernel)) (fun _ _ _ _ _ => (pg_name (i := 6) sc_law.nd rfl (by first | exact Or.inl rfl | exact Or.inr rfl))) (fun _ _ _ _ _ => pts_nil) (fun _ _ _ _ _ => (pe_callTy call_int1 (by rfl) T.m_int (by decide +kernel) (pa_cons (pv 6) pa_nil))))
      (C8.pss_cut (ps_if (pt_cmpR op_eq (pe_callB call_len_seq (by rfl) T.m_len PySem.boot_len (pa_cons (pv 1) pa_nil)) pe_int (by first | rfl | exact nomark _)) (pss_one (ps_set (i := 1) sc_law.nd rfl (by first | exact Or.inl rfl | exact Or.inr rfl) (pe_lst (pa_cons pe_int pa_nil)))) pss_nil)
      (pss_cons (ps_for PassesOwn.never rfl (pi_range1 (by rfl) T.m_range (pa_cons (pe_callB call_len_seq (by rfl) T.m_len PySem.boot_len (pa_cons (pv 1) pa_nil)) pa_nil)) (pg_name (i := 2) sc_law.nd rfl (by first | exact Or.inl rfl | exact Or.inr rfl)) (pss_cons (ps_set (i := 3) sc_law.nd rfl (by first | exact Or.inl rfl | exact Or.inr rfl) (pe_ix ix_list (pv 1) (pv 2) (fun _ _ => rfl)))
      (pss_cons (ps_if (PW.pt (pw_or (pt_not (pt_val (pe_c c__law_one hr (by decide) (by rfl) (pa_cons (pv 3) (pa_cons pe_str (pa_cons pe_int pa_nil)))))) (pw_or1 (pt_not (pt_val (pe_c c__law_one hr (by decide) (by rfl) (pa_cons (pv 3) (pa_cons pe_str (pa_cons pe_int pa_nil))))))))) (pss_one (ps_ret pe_bl)) pss_nil)
      (pss_cons (ps_set (i := 4) sc_law.nd rfl (by first | exact Or.inl rfl | exact Or.inr rfl) (pe_op op_add pe_int (pe_op op_mod (pe_callTy call_int1 (by rfl) T.m_int (by decide +kernel) (pa_cons (pe_op op_add (pe_ix ix_list (pv 1) (pe_op op_mod (pe_op op_add (pv 2) pe_int) (pe_callB call_len_seq (by rfl) T.m_len PySem.boot_len (pa_cons (pv 1) pa_nil))) (fun _ _ => rfl)) (pv 2)) pa_nil)) pe_int)))
      (pss_cons (ps_if (pt_not (pt_val (pe_c c__law_fits hr (by decide) (by rfl) (pa_cons (pe_c c_extend hr (by decide) (by rfl) (pa_cons (pv 3) (pa_cons (pv 4) pa_nil))) (pa_cons (pv 3) (pa_cons (pv 4) (pa_cons (pe_un un_neg (pe_op op_shl1 pe_int (pe_op op_sub (pv 4) pe_int))) pa_nil))))))) (pss_one (ps_ret pe_bl)) pss_nil)
      (pss_cons (ps_set (i := 5) sc_law.nd rfl (by first | exact Or.inl rfl | exact Or.inr rfl) (pe_op op_add (pe_op op_sub (pe_op op_shl1 pe_int (pe_op op_sub (pv 4) pe_int)) pe_int) (pe_op op_mod (pe_callTy call_int1 (by rfl) T.m_int (by decide +kernel) (pa_cons (pv 3) pa_nil)) pe_int)))
      (pss_one (ps_if (pt_not (pt_val (pe_c c__law_fits hr (by decide) (by rfl) (pa_cons (pe_c c_extend hr (by decide) (by rfl) (pa_cons (pv 5) (pa_cons (pv 4) pa_nil))) (pa_cons (pv 5) (pa_cons (pv 4) (pa_cons (pe_un un_neg (pe_op op_shl1 pe_int (pe_op op_sub (pv 4) pe_int))) pa_nil))))))) (pss_one (ps_ret pe_bl)) pss_nil))))))))
      (pss_one (ps_ret pe_bl))))), ?_⟩
    walk_at "go"
    refine ⟨a, _, rfl, hS, fun p hp => ?_⟩
    rw [show ((63 : Int)) = ((63 : Nat) : Int) from rfl, cut_to]
    have s1 : Same H (upd H p (.lst ((ns.map V.int).take 63))) := Same.new hp
    refine ⟨p, rfl, ⟨_, SqL.new⟩, fun D hD => lc_map (j := 6) (f := id) hD SqL.new (by rw [List.length_take]; omega) (fun x H2 Q2 hx s2 q2 => ?_) (fun H2 s2 hD2 => ?_)⟩
    · obtain ⟨m, _, rfl⟩ := List.mem_map.mp (List.mem_of_mem_take hx)
      walk_at "go"
      exact q2 _ (Same.refl _)
    · rw [List.map_id, ← List.map_take] at hD2
      have hl : (ns.take 63).length ≤ 63 := by rw [List.length_take]; omega
      refine ⟨fun σ H3 => ∃ (c : Addr) (cs : List Int), σ = [some (.ref a), some (.ref c), none, none, none, none, none] ∧ SqL K H3 c (cs.map V.int) ∧ 0 < cs.length ∧ cs.length ≤ 63, ?_, ?_⟩
      · refine ⟨_, rfl, D, _, rfl, .inl (SqL.of hD2), ?_⟩
        walk_at "go"
        refine ite2 (fun c => ?_) (fun c => ?_)
        · try refine And.intro (show 1 ≤ sizeLine by decide) ?_
          intro p2 hp2
          exact ⟨p2, [0], rfl, SqL.new, by decide, by decide⟩
        · refine ⟨D, ns.take 63, rfl, SqL.of hD2, ?_, hl⟩
          rw [List.length_map] at c
          have : ¬ ((ns.take 63).length : Int) = 0 := fun z => c (decide_eq_true (congrArg V.int z))
          omega
      · rintro _ H3 ⟨c, cs, rfl, hc, h0, h63⟩
        refine ⟨_, rfl, c, _, rfl, .inl hc, ?_⟩
        rw [List.length_map]
        refine ⟨_, rfl, by omega, by omega, ?_⟩
        refine for_range (lo := 0) (n := cs.length) (fun i σ H4 => H4 = H3 ∧ ∃ o2 o3 o4 o5, σ = [some (.ref a), some (.ref c), o2, o3, o4, o5, none]) ⟨rfl, _, _, _, _, rfl⟩ ?_ ?_
        · rintro i σ H4 hi ⟨rfl, o2, o3, o4, o5, rfl⟩
          rw [Int.zero_add]
          walk_at "go"
          simp only [List.length_map]
          refine ⟨by show (0 : Int) < _; omega, ?_⟩
          obtain ⟨m, em, hm⟩ : ∃ m : Nat, ((i : Int) + 1) % (cs.length : Int) = (m : Int) ∧ m < cs.length := ⟨(i + 1) % cs.length, by rw [Int.natCast_emod]; rfl, Nat.mod_lt _ h0⟩
          simp only [em]
          walk_at "go"
          obtain ⟨b, eb, hb1, hb2⟩ : ∃ b : Nat, 1 + (cs.getD m 0 + (i : Int)) % 64 = (b : Int) ∧ 1 ≤ b ∧ b ≤ 64 := ⟨(1 + (cs.getD m 0 + (i : Int)) % 64).toNat, by omega, by omega, by omega⟩
          simp only [eb]
          have e1 : ((b : Int) - 1).toNat = b - 1 := by omega
          obtain ⟨s1, s2, s3⟩ := sgn_fits (cs.getD i 0) b hb1
          refine ⟨_, b, rfl, hb1, hb2, ?_⟩
          walk_at "go"
          refine ⟨_, _, b, _, rfl, hb2, ?_, ?_, s3, ?_⟩
          · simp only [e1]; exact s1
          · simp only [e1]; exact s2
          walk_at "go"
          simp only [e1]
          obtain ⟨t1, t2, t3⟩ := sgn_fits ((2 : Int) ^ (b - 1) - 1 + cs.getD i 0 % 3) b hb1
          refine ⟨_, _, b, _, rfl, hb2, t1, t2, t3, ?_⟩
          walk_at "go"
          exact ⟨_, _, _, _, rfl⟩
        · rintro σ H4 ⟨rfl, o2, o3, o4, o5, rfl⟩
          exact q _
end
theorem all_mk {l : PySem.W.OpenLaw} {w : World} {K : PySem.W.Frag} {h : Heap} {mg : Str → Option Value} {fa f0 f1 f2 f3 f4 f5 f6 f7 : Addr} (X : K.In h) (G : h.Ns mainGlobals mg) (hfa : mg "law" = some (.ref fa))
    {od0 an0 od1 an1 od2 an2 od3 an3 od4 an4 od5 an5 od6 an6 od7 an7 : Option Addr} {sl0 sl1 sl2 sl3 sl4 sl5 sl6 sl7 : Array (Option Value)} {oc0 kV0 dc0 pm0 cd0 ct0 oc1 kV1 dc1 pm1 cd1 ct1 oc2 kV2 dc2 pm2 cd2 ct2 oc3 kV3 dc3 pm3 cd3 ct3 oc4 kV4 dc4 pm4 cd4 ct4 oc5 kV5 dc5 pm5 cd5 ct5 oc6 kV6 dc6 pm6 cd6 ct6 oc7 kV7 dc7 pm7 cd7 ct7 : Value}
    (a0 : PySem.W.nsIn K mainGlobals "width" = some (some (.ref f0))) (l0 : K.lookup f0 = some ⟨oc0, od0, .func (PySem.W.fnOf "width" "width" (defArgs s_width) (defBody s_width) (defScope s_width) .none kV0 dc0 pm0 an0 cd0 ct0), sl0⟩) (c0 : PySem.W.codeIn K cd0 "width" = true) (k0 : PySem.W.keepIn K (.ref f0) = true)
    (a1 : PySem.W.nsIn K mainGlobals "unsigned" = some (some (.ref f1))) (l1 : K.lookup f1 = some ⟨oc1, od1, .func (PySem.W.fnOf "unsigned" "unsigned" (defArgs s_unsigned) (defBody s_unsigned) (defScope s_unsigned) .none kV1 dc1 pm1 an1 cd1 ct1), sl1⟩) (c1 : PySem.W.codeIn K cd1 "unsigned" = true) (k1 : PySem.W.keepIn K (.ref f1) = true)
    (a2 : PySem.W.nsIn K mainGlobals "extend" = some (some (.ref f2))) (l2 : K.lookup f2 = some ⟨oc2, od2, .func (PySem.W.fnOf "extend" "extend" (defArgs s_extend) (defBody s_extend) (defScope s_extend) .none kV2 dc2 pm2 an2 cd2 ct2), sl2⟩) (c2 : PySem.W.codeIn K cd2 "extend" = true) (k2 : PySem.W.keepIn K (.ref f2) = true)
    (a3 : PySem.W.nsIn K mainGlobals "signed" = some (some (.ref f3))) (l3 : K.lookup f3 = some ⟨oc3, od3, .func (PySem.W.fnOf "signed" "signed" (defArgs s_signed) (defBody s_signed) (defScope s_signed) .none kV3 dc3 pm3 an3 cd3 ct3), sl3⟩) (c3 : PySem.W.codeIn K cd3 "signed" = true) (k3 : PySem.W.keepIn K (.ref f3) = true)
    (a4 : PySem.W.nsIn K mainGlobals "_law_is_integer" = some (some (.ref f4))) (l4 : K.lookup f4 = some ⟨oc4, od4, .func (PySem.W.fnOf "_law_is_integer" "_law_is_integer" (defArgs s__law_is_integer) (defBody s__law_is_integer) (defScope s__law_is_integer) .none kV4 dc4 pm4 an4 cd4 ct4), sl4⟩) (c4 : PySem.W.codeIn K cd4 "_law_is_integer" = true) (k4 : PySem.W.keepIn K (.ref f4) = true)
    (a5 : PySem.W.nsIn K mainGlobals "_law_fits" = some (some (.ref f5))) (l5 : K.lookup f5 = some ⟨oc5, od5, .func (PySem.W.fnOf "_law_fits" "_law_fits" (defArgs s__law_fits) (defBody s__law_fits) (defScope s__law_fits) .none kV5 dc5 pm5 an5 cd5 ct5), sl5⟩) (c5 : PySem.W.codeIn K cd5 "_law_fits" = true) (k5 : PySem.W.keepIn K (.ref f5) = true)
    (a6 : PySem.W.nsIn K mainGlobals "_law_one" = some (some (.ref f6))) (l6 : K.lookup f6 = some ⟨oc6, od6, .func (PySem.W.fnOf "_law_one" "_law_one" (defArgs s__law_one) (defBody s__law_one) (defScope s__law_one) .none kV6 dc6 pm6 an6 cd6 ct6), sl6⟩) (c6 : PySem.W.codeIn K cd6 "_law_one" = true) (k6 : PySem.W.keepIn K (.ref f6) = true)
    (a7 : PySem.W.nsIn K mainGlobals "law" = some (some (.ref f7))) (l7 : K.lookup f7 = some ⟨oc7, od7, .func (PySem.W.fnOf "law" "law" (defArgs s_law) (defBody s_law) (defScope s_law) .none kV7 dc7 pm7 an7 cd7 ct7), sl7⟩) (c7 : PySem.W.codeIn K cd7 "law" = true) (k7 : PySem.W.keepIn K (.ref f7) = true)
    (z_bool : PySem.W.nsIn K mainGlobals "bool" = some none)
    (z_int : PySem.W.nsIn K mainGlobals "int" = some none)
    (z_isinstance : PySem.W.nsIn K mainGlobals "isinstance" = some none)
    (z_len : PySem.W.nsIn K mainGlobals "len" = some none)
    (z_range : PySem.W.nsIn K mainGlobals "range" = some none)
    : ∃ fd : FuncData, (∀ (s : Shared) (v : Value), BindsTo s fd ⟨[v], []⟩ [("script", v)]) ∧ ∀ base : Heap, K.In base → base.Ns mainGlobals mg → FnOk l.prog w K mg base CX0 4 fa fd ["script"] (sp_lawK K) := by
  have e := hfa.symm.trans (PySem.W.mg_of X G a7)
  cases e
  have T : Tp w K mg (⟨()⟩ : Cs) := ⟨PySem.W.mg_none_of X G z_bool, PySem.W.mg_none_of X G z_int, PySem.W.mg_none_of X G z_isinstance, PySem.W.mg_none_of X G z_len, PySem.W.mg_none_of X G z_range⟩
  have F0 := fun_mk (st := s_width) l0 c0 k0
  have D_width : Def K mg "width" s_width ["kind"] := ⟨_, _, F0, PySem.W.mg_of X G a0, F0.binds (ps := ["kind"]) fun _ _ _ _ _ _ us hl => match us, hl with | [_], _ => rfl⟩
  have F1 := fun_mk (st := s_unsigned) l1 c1 k1
  have D_unsigned : Def K mg "unsigned" s_unsigned ["kind", "number"] := ⟨_, _, F1, PySem.W.mg_of X G a1, F1.binds (ps := ["kind", "number"]) fun _ _ _ _ _ _ us hl => match us, hl with | [_, _], _ => rfl⟩
  have F2 := fun_mk (st := s_extend) l2 c2 k2
  have D_extend : Def K mg "extend" s_extend ["number", "bits"] := ⟨_, _, F2, PySem.W.mg_of X G a2, F2.binds (ps := ["number", "bits"]) fun _ _ _ _ _ _ us hl => match us, hl with | [_, _], _ => rfl⟩
  have F3 := fun_mk (st := s_signed) l3 c3 k3
  have D_signed : Def K mg "signed" s_signed ["kind", "number"] := ⟨_, _, F3, PySem.W.mg_of X G a3, F3.binds (ps := ["kind", "number"]) fun _ _ _ _ _ _ us hl => match us, hl with | [_, _], _ => rfl⟩
  have F4 := fun_mk (st := s__law_is_integer) l4 c4 k4
  have D__law_is_integer : Def K mg "_law_is_integer" s__law_is_integer ["actual"] := ⟨_, _, F4, PySem.W.mg_of X G a4, F4.binds (ps := ["actual"]) fun _ _ _ _ _ _ us hl => match us, hl with | [_], _ => rfl⟩
  have F5 := fun_mk (st := s__law_fits) l5 c5 k5
  have D__law_fits : Def K mg "_law_fits" s__law_fits ["actual", "number", "bits", "least"] := ⟨_, _, F5, PySem.W.mg_of X G a5, F5.binds (ps := ["actual", "number", "bits", "least"]) fun _ _ _ _ _ _ us hl => match us, hl with | [_, _, _, _], _ => rfl⟩
  have F6 := fun_mk (st := s__law_one) l6 c6 k6
  have D__law_one : Def K mg "_law_one" s__law_one ["number", "kind", "bits"] := ⟨_, _, F6, PySem.W.mg_of X G a6, F6.binds (ps := ["number", "kind", "bits"]) fun _ _ _ _ _ _ us hl => match us, hl with | [_, _, _], _ => rfl⟩
  have F7 := fun_mk (st := s_law) l7 c7 k7
  refine ⟨PySem.W.fnOf "law" "law" (defArgs s_law) (defBody s_law) (defScope s_law) .none kV7 dc7 pm7 an7 cd7 ct7, fun s v => .of_eq rfl, fun base _ _ => ?_⟩
  have C__law_is_integer : Cal l.prog w K mg base CX0 1 "_law_is_integer" (sp__law_is_integer K (⟨()⟩ : Cs)) := c__law_is_integer D__law_is_integer T 
  have C__law_fits : Cal l.prog w K mg base CX0 2 "_law_fits" (sp__law_fits K (⟨()⟩ : Cs)) := c__law_fits D__law_fits T C__law_is_integer
  have C_width : Cal l.prog w K mg base CX0 1 "width" (sp_width K (⟨()⟩ : Cs)) := c_width D_width T 
  have C_unsigned : Cal l.prog w K mg base CX0 2 "unsigned" (sp_unsigned K (⟨()⟩ : Cs)) := c_unsigned D_unsigned T C_width
  have C_extend : Cal l.prog w K mg base CX0 1 "extend" (sp_extend K (⟨()⟩ : Cs)) := c_extend D_extend T 
  have C_signed : Cal l.prog w K mg base CX0 2 "signed" (sp_signed K (⟨()⟩ : Cs)) := c_signed D_signed T C_extend C_width
  have C__law_one : Cal l.prog w K mg base CX0 3 "_law_one" (sp__law_one K (⟨()⟩ : Cs)) := c__law_one D__law_one T C_unsigned C_signed C__law_fits C__law_is_integer C_width
  exact c_law F7 T C__law_fits C__law_one C_extend
theorem walk {l : PySem.W.OpenLaw} {q : Program} {loose : List Str} {XP : (Str → Option Value) → Heap → Prop} {YP : World → Heap → Prop} {d : DefRec} {K : Params → PySem.W.Frag} (hn : l.most = some 63) (hdf : d.params.defaults = [])
    (hY : ∀ (w : World) (h : Heap), YP w h → (K w.params).In h)
    (F : ∀ (w : World) (mg : Str → Option Value) (fa : Addr) (h : Heap), (K w.params).In h → h.Ns mainGlobals mg → mg d.name = some (.ref fa) →
      ∃ fd : FuncData, (∀ (s : Shared) (u : Value), BindsTo s fd ⟨[u], []⟩ [("script", u)]) ∧ ∀ base : Heap, (K w.params).In base → base.Ns mainGlobals mg → FnOk l.prog w (K w.params) mg base CX0 4 fa fd ["script"] (sp_lawK (K w.params))) :
    PySem.W.WalkO q loose XP YP l.row.toRowW d [] (fun f vs => PySem.call f vs) :=
  L2.walk_of (n := 63) (k := 4) (x := "script") (CX := fun _ => CX0) (sp := fun w => sp_lawK (K w.params)) hn (by decide) hdf ⟨rfl, by decide, by decide⟩ hY F (fun _ _ a ns hl _ hS => ⟨a, ns, rfl, hS, hl, fun _ => rfl⟩) fun _ _ _ _ _ z => z
end V
open PySem PySem.W PyProof.Rows
set_option maxRecDepth 100000 in
set_option maxHeartbeats 0 in
theorem PySem.Challenge.cw_wasmhost_k01_unsigned_and_signed_holds : PySem.Challenge.rw_wasmhost_k01_unsigned_and_signed.Holds := by
  w_on; o_law; k_head; (case hw => w_witness2)
  k_fill
  refine V.walk (l := PySem.Challenge.rw_wasmhost_k01_unsigned_and_signed) rfl rfl (fun w h Y => PySem.W.kIn_of Y) ?F
  case F =>
    intro w mg fa h KX G hmg
    refine' V.all_mk KX G hmg ?a0 ?l0 ?c0 ?k0 ?a1 ?l1 ?c1 ?k1 ?a2 ?l2 ?c2 ?k2 ?a3 ?l3 ?c3 ?k3 ?a4 ?l4 ?c4 ?k4 ?a5 ?l5 ?c5 ?k5 ?a6 ?l6 ?c6 ?k6 ?a7 ?l7 ?c7 ?k7 ?z_bool ?z_int ?z_isinstance ?z_len ?z_range
    (case a0 => k_is)
    (case l0 => k_is)
    (case c0 => k_is)
    (case k0 => k_is)
    (case a1 => k_is)
    (case l1 => k_is)
    (case c1 => k_is)
    (case k1 => k_is)
    (case a2 => k_is)
    (case l2 => k_is)
    (case c2 => k_is)
    (case k2 => k_is)
    (case a3 => k_is)
    (case l3 => k_is)
    (case c3 => k_is)
    (case k3 => k_is)
    (case a4 => k_is)
    (case l4 => k_is)
    (case c4 => k_is)
    (case k4 => k_is)
    (case a5 => k_is)
    (case l5 => k_is)
    (case c5 => k_is)
    (case k5 => k_is)
    (case a6 => k_is)
    (case l6 => k_is)
    (case c6 => k_is)
    (case k6 => k_is)
    (case a7 => k_is)
    (case l7 => k_is)
    (case c7 => k_is)
    (case k7 => k_is)
    (case z_bool => k_is)
    (case z_int => k_is)
    (case z_isinstance => k_is)
    (case z_len => k_is)
    (case z_range => k_is)
#print axioms PySem.Challenge.cw_wasmhost_k01_unsigned_and_signed_holds

