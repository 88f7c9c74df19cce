import PyProof.Rows.All
import Wide.All
import OpenK.AllK
import Wide.FinOn
import KE.KBits
import KE.BitLaws
import HandS.ForMost
import HandS.ForExc
import HandS.IsInst
import HandS.Wide
import HandS.WideBits
import HandS.WideMore
import HandS.Flow
import HandS.ExcInit
import HandS.Codes
import HandS.ExcField
import HandS.ExcIs
import KE.KExcIs
import KE.KIsAll
import HandS.More
import HandS.Dict
import HandS.CallLocal
import HandS.Zip
import HandS.Text
import HandS.Conv
import HandS.Iter
import HandS.Style
import HandS.Deep
import PyProof.EnumMake
import PyProof.EnumFor
import KE.GoesMore
import HandS.MakeKwOnly
import PySem.Challenge.RW_wasmhost_k44_resolve_tells_the_first_fau
set_option Elab.async false
set_option linter.all false
set_option maxRecDepth 100000
set_option maxHeartbeats 4000000
namespace V
open PySem PySem.Spec PyProof.Rows L2
/-! ### a def that may be called by its name -/
structure Cal (P : Program) (w : World) (K : PySem.W.Frag) (mg : Str → Option Value) (base : Heap) (C : CXT) (k : Nat) (x : Str) (sp : Sp) : Prop where
  ex : ∃ (f : Addr) (fd : FuncData) (ps : List Str), FnOk P w K mg base C k f fd ps sp ∧ mg x = some (.ref f) ∧ PySem.W.keepIn K (.ref f) = true ∧ Binds K fd ps []
section
variable {P : Program} {w : World} {K : PySem.W.Frag} {mg : Str → Option Value} {base : Heap} {k : Nat} {x : Str} {sp sp' : Sp} {C : CXT}
theorem Cal.mono (c : Cal P w K mg base C k x sp) {j : Nat} (h : k ≤ j) : Cal P w K mg base C j x sp := by
  obtain ⟨f, fd, ps, F, m, kp, b⟩ := c.ex
  exact ⟨f, fd, ps, F.mono h, m, kp, b⟩
theorem Cal.imp (c : Cal P w K mg base C k x sp) (h : ∀ vs H Q E, sp' vs H Q E → sp vs H Q E) : Cal P w K mg base C k x sp' := by
  obtain ⟨f, fd, ps, F, m, kp, b⟩ := c.ex
  exact ⟨f, fd, ps, F.imp h, m, kp, b⟩
/-- a def as the top leaves it -/
structure Def (K : PySem.W.Frag) (mg : Str → Option Value) (x : Str) (st : Stmt) (ps : List Str) : Prop where
  ex : ∃ (f : Addr) (fd : FuncData), L2.Fun K x x st f fd ∧ mg x = some (.ref f) ∧ Binds K fd ps []
theorem Def.ok {st : Stmt} {N ps : List Str} (D : Def K mg x st ps) (S : FnScope N ps (defScope st)) (len : ∀ vs H Q E, sp vs H Q E → vs.length = ps.length)
    (hbody : ∀ (f : Addr) (cdv : Value) (A : Around) (outer : List Env) (s : Shared) (H : Hp) (vs : List V) (Q : VK) (E : XK), Room k (A.deeper (envOfC x (defScope st) s.heap.objs.size f cdv)) → sp vs H Q E →
      ∃ t, PSs (cxOf CX0 P w K mg base N x (defScope st) f cdv A outer s H E).nox (defBody st) t ∧ t { nx := fun _ H' => Q .non H', rt := Q } (start N vs) H) : Cal P w K mg base CX0 (k + 1) x sp := by
  obtain ⟨f, fd, F, m, b⟩ := D.ex
  exact ⟨f, fd, ps, F.ok S len (hbody f), m, F.kp, b⟩
theorem Def.okX {st : Stmt} {N ps : List Str} (D : Def K mg x st ps) (S : FnScope N ps (defScope st)) (len : ∀ vs H Q E, sp vs H Q E → vs.length = ps.length)
    (hbody : ∀ (f : Addr) (cdv : Value) (A : Around) (outer : List Env) (s : Shared) (H : Hp) (vs : List V) (Q : VK) (E : XK), Room k (A.deeper (envOfC x (defScope st) s.heap.objs.size f cdv)) → sp vs H Q E →
      ∃ t, PSs (cxOf (L2.CX P w) P w K mg base N x (defScope st) f cdv A outer s H E) (defBody st) t ∧ t { nx := fun _ H' => Q .non H', rt := Q } (start N vs) H) : Cal P w K mg base (L2.CX P w) (k + 1) x sp := by
  obtain ⟨f, fd, F, m, b⟩ := D.ex
  exact ⟨f, fd, ps, F.okX S len (hbody f), m, F.kp, b⟩
end
section
variable {X : Cx} {k j : Nat} {x : Str} {sp : Sp} {p pos : Pos} {e : Expr} {es : List Expr} {t : TA} {C : CXT} {E : XK}
theorem pe_cE (c : Cal X.prog X.w X.K X.mg X.base C k x sp) (hr : Room j X.A) (hk : k ≤ j) (hx : Passes C X E) (hg : Gl X x) (ha : PA X (e :: es) t)
    (hdb : (x == ("__debug__" : Str)) = false := by decide) (he : starEach (e :: es) X.env = (false, eval e X.env) :: starEach es X.env := by rfl) (hpl : (backTo pos (starEach es X.env)).any (·.1) = false := by rfl) :
    PE X (.Call (.Name x p) (e :: es) [] pos) (tCall sp [] E t) := by
  obtain ⟨f, fd, ps, F, hm, kp, b⟩ := c.ex
  exact pe_call F (hr.mono hk) hg hm kp b .nil hx ha hdb he hpl
theorem pe_cE0 (c : Cal X.prog X.w X.K X.mg X.base C k x sp) (hr : Room j X.A) (hk : k ≤ j) (hx : Passes C X E) (hg : Gl X x)
    (hdb : (x == ("__debug__" : Str)) = false := by decide) : PE X (.Call (.Name x p) [] [] pos) (tCall sp [] E tNil) := by
  obtain ⟨f, fd, ps, F, hm, kp, b⟩ := c.ex
  exact pe_call0 F (hr.mono hk) hg hm kp b .nil hx hdb
/-- a def that lets nothing out -/
theorem pe_c (c : Cal X.prog X.w X.K X.mg X.base CX0 k x sp) (hr : Room j X.A) (hk : k ≤ j) (hg : Gl X x) (ha : PA X (e :: es) t)
    (hdb : (x == ("__debug__" : Str)) = false := by decide) (he : starEach (e :: es) X.env = (false, eval e X.env) :: starEach es X.env := by rfl) (hpl : (backTo pos (starEach es X.env)).any (·.1) = false := by rfl) :
    PE X (.Call (.Name x p) (e :: es) [] pos) (tCall sp [] E0 t) := pe_cE c hr hk pass0 hg ha hdb he hpl
theorem pe_c0 (c : Cal X.prog X.w X.K X.mg X.base CX0 k x sp) (hr : Room j X.A) (hk : k ≤ j) (hg : Gl X x)
    (hdb : (x == ("__debug__" : Str)) = false := by decide) : PE X (.Call (.Name x p) [] [] pos) (tCall sp [] E0 tNil) := pe_cE0 c hr hk pass0 hg hdb
end
section
variable {X : Cx} {k j : Nat} {x : Str} {sp : Sp} {p pos : Pos} {e : Expr} {es : List Expr} {t : TA} {C : CXT} {E : L2.St → XK}
/-- a call within a try -/
theorem pe_cS (c : Cal X.prog X.w X.K X.mg X.base C k x sp) (hr : Room j X.A) (hk : k ≤ j) (hg : Gl X x) (hx : ∀ σ, PassesAt C X σ (E σ)) (ha : PA X (e :: es) t)
    (hdb : (x == ("__debug__" : Str)) = false := by decide) (he : starEach (e :: es) X.env = (false, eval e X.env) :: starEach es X.env := by rfl) (hpl : (backTo pos (starEach es X.env)).any (·.1) = false := by rfl) : PE X (.Call (.Name x p) (e :: es) [] pos) (tCallS sp E t) := by
  obtain ⟨f, fd, ps, F, hm, kp, b⟩ := c.ex
  exact pe_callS F (hr.mono hk) hg hm kp b hx ha hdb he hpl
end
theorem hu64 {A : Around} {k : Nat} (hr : Room k A) : A.units + 64 < cLine := by have := hr.un; omega
/-! ### numbers -/
theorem small64 {n : Nat} (h : n ≤ 1000000) : n ≤ sizeLine := Nat.le_trans h (by decide)
theorem small64' {n : Nat} (h : n ≤ 1000000) : n < sizeLine := Nat.lt_of_le_of_lt h (by decide)
theorem shl1 {j : Int} (h : 0 ≤ j) (h2 : j ≤ 100000) : CShl 1 j := by
  obtain ⟨n, rfl⟩ := Int.eq_ofNat_of_zero_le h
  exact shl_ok (n := 1) (by decide) (by omega)
theorem shlN {i j : Int} (hi : i.natAbs < 2 ^ 1000) (h : 0 ≤ j) (h2 : j ≤ 100000) : CShl i j := by
  obtain ⟨n, rfl⟩ := Int.eq_ofNat_of_zero_le h
  exact shl_ok (n := 1000) hi (by omega)
theorem pow_pos2 (k : Nat) : (0 : Int) < 2 ^ k := PySem.W.kbt_pos k
/-! ### heaps -/
theorem Same.new {H : Hp} {p : Addr} {o : HO} (h : H p = none) : Same H (upd H p o) := fun b x e => by
  rw [upd_ne (ne_of_none e h)]; exact e
theorem SqL.new {K : PySem.W.Frag} {H : Hp} {p : Addr} {xs : List V} : SqL K (upd H p (.lst xs)) p xs := .inl (.inl upd_same)
theorem SqT.new {K : PySem.W.Frag} {H : Hp} {p : Addr} {xs : List V} : SqT K (upd H p (.tup xs)) p xs := .inl (.inl upd_same)

/-! ### operators in the words that the readings like -/
section
variable {X : Cx}
/-- i << j, i of a usual size -/
theorem op_shlS : OpR X (binaryOp .LShift) (fun x y H Q => ∃ i j : Int, x = .int i ∧ y = .int j ∧ (i.natAbs < 2 ^ 1000 ∧ 0 ≤ j ∧ j ≤ 100000) ∧ Q (.int (i * 2 ^ j.toNat)) H) := by
  intro pins s σ H x y v u Q I rx ry h
  obtain ⟨i, j, rfl, rfl, ⟨c0, c1, c2⟩, q⟩ := h
  exact op_shlW pins s σ H _ _ v u Q I rx ry ⟨i, j, rfl, rfl, shlN c0 c1 c2, q⟩
theorem nat_small {i : Int} (h : i.natAbs ≤ 18446744073709551616) : i.natAbs < 2 ^ 1000 := Nat.lt_of_le_of_lt h (by decide +kernel)
/-- 1 << j -/
theorem op_shl1 : OpR X (binaryOp .LShift) (fun x y H Q => ∃ j : Int, x = .int 1 ∧ y = .int j ∧ (0 ≤ j ∧ j ≤ 100000) ∧ Q (.int (2 ^ j.toNat)) H) := by
  intro pins s σ H x y v u Q I rx ry h
  obtain ⟨j, rfl, rfl, ⟨c1, c2⟩, q⟩ := h
  refine op_shlW pins s σ H _ _ v u Q I rx ry ⟨1, j, rfl, rfl, shl1 c1 c2, ?_⟩
  show Q (.int (1 * 2 ^ j.toNat)) H
  rw [Int.one_mul]; exact q
end
/-- isinstance(x, T) of a value of a type of its own -/
theorem isi_int {K : PySem.W.Frag} {H : Hp} {i : Int} {Q : VK} (q : Q (.bl true) H) : rIsi K [.int i, .ty "int"] H Q := ⟨.int i, .ty "int", _, _, true, rfl, .ty _, .base (.int _), kit_ty (by decide +kernel), q⟩
theorem isi_int_bool {K : PySem.W.Frag} {H : Hp} {i : Int} {Q : VK} (q : Q (.bl false) H) : rIsi K [.int i, .ty "bool"] H Q := ⟨.int i, .ty "bool", _, _, false, rfl, .ty _, .base (.int _), kit_ty (by decide +kernel), q⟩
theorem isi_list {K : PySem.W.Frag} {H : Hp} {a : Addr} {xs : List V} {Q : VK} (h : H a = some (.lst xs)) (q : Q (.bl true) H) : rIsi K [.ref a, .ty "list"] H Q := ⟨.ref a, .ty "list", _, _, true, rfl, .ty _, .base (.lst h), kit_ty (by decide +kernel), q⟩
theorem isi_tup {K : PySem.W.Frag} {H : Hp} {a : Addr} {xs : List V} {Q : VK} (h : H a = some (.tup xs)) (q : Q (.bl true) H) : rIsi K [.ref a, .ty "tuple"] H Q := ⟨.ref a, .ty "tuple", _, _, true, rfl, .ty _, .base (.tup h), kit_ty (by decide +kernel), q⟩
theorem isi_str {K : PySem.W.Frag} {H : Hp} {z : Str} {Q : VK} (q : Q (.bl true) H) : rIsi K [.str z, .ty "str"] H Q := ⟨.str z, .ty "str", _, _, true, rfl, .ty _, .base (.str _), kit_ty (by decide +kernel), q⟩
/-! ### lists of ints -/
theorem at_ints {ns : List Int} {k : Nat} (h : k < ns.length) : atI (ns.map V.int) (k : Int) = some (.int (ns.getD k 0)) := atI_nat (by
  rw [List.getElem?_map, List.getElem?_eq_getElem h, List.getD_eq_getElem?_getD, List.getElem?_eq_getElem h]; rfl)
theorem cut_to (xs : List V) (k : Nat) : cutV xs none (some (k : Int)) = xs.take k := by
  unfold cutV
  rw [HT.sIx_nat, HT.sIx_none, List.drop_zero, Nat.sub_zero]
  rcases Nat.le_total k xs.length with h | h
  · rw [Nat.min_eq_left h]
  · rw [Nat.min_eq_right h, List.take_length, List.take_of_length_le h]
theorem cut_from (xs : List V) (k : Nat) : cutV xs (some (k : Int)) none = xs.drop k := by
  unfold cutV
  rw [HT.sIx_nat, HT.sIx_none]
  rcases Nat.le_total k xs.length with h | h
  · rw [Nat.min_eq_left h]; exact List.take_of_length_le (by rw [List.length_drop]; exact Nat.le_refl _)
  · rw [Nat.min_eq_right h, Nat.sub_self, List.take_zero, List.drop_eq_nil_of_le h]
/-! ### a reading, gone through as far as it goes by sight -/
local macro_rules | `(tactic| walk_at "side") => `(tactic| first
  | (show _ = _; rfl)
  | (show (0 : Int) < _; first | omega | exact pow_pos2 _)
  | (show (0 : Int) ≤ _; omega)
  | (show (0 : Int) ≤ _ ∧ _; constructor <;> omega)
  | (show (0 : Int) < _ ∧ _; constructor <;> omega)
  | (show (_ < _ ∧ _ < _) ∨ (_ < _ ∧ _ < _); first | exact .inl ⟨by omega, by omega⟩ | exact .inr ⟨by omega, by omega⟩))
local macro_rules | `(tactic| walk_at "loop") => `(tactic| (show ∃ W : (Nat → Nat → L2.St → Hp → Prop), _))
local macro_rules | `(tactic| walk_at "go1") => `(tactic| (fail_if_success walk_at "loop"); first
  | refine And.intro (show (_ : Int) ≤ _ by omega) ?_
  | refine ⟨_, rfl, ?_⟩
  | refine ⟨_, _, rfl, rfl, ?_⟩
  | refine ⟨_, rfl, rfl, ?_⟩
  | refine .inl ⟨_, rfl, ?_⟩
  | refine ⟨_, .ty "int", _, _, true, rfl, .ty _, .base (.int _), kit_ty (by decide +kernel), ?_⟩
  | refine ⟨_, .ty "bool", _, _, false, rfl, .ty _, .base (.int _), kit_ty (by decide +kernel), ?_⟩
  | refine ⟨_, .ty "bool", _, _, false, rfl, .ty _, .base (.str _), kit_ty (by decide +kernel), ?_⟩
  | refine ⟨_, .ty "str", _, _, true, rfl, .ty _, .base (.str _), kit_ty (by decide +kernel), ?_⟩
  | refine ⟨_, .ty "list", _, _, true, rfl, .ty _, .base (.lst (by assumption)), kit_ty (by decide +kernel), ?_⟩
  | refine ⟨_, .ty "tuple", _, _, true, rfl, .ty _, .base (.tup (by assumption)), kit_ty (by decide +kernel), ?_⟩
  | refine ⟨_, _, rfl, .inl (by assumption), ?_⟩
  | refine ⟨_, _, rfl, .inr (by assumption), ?_⟩
  | refine ⟨_, _, rfl, ?_⟩
  | refine ⟨_, _, _, _, rfl, rfl, by assumption, at_ints (by omega), ?_⟩
  | refine ⟨_, _, _, _, rfl, rfl, by assumption, rfl, ?_⟩
  | refine iteF ?_
  | refine iteT ?_
  | refine iteNS rfl ?_
  | (refine And.intro ?h1 ?h2; case h1 => first
    | walk_at "side"
    | assumption
    | (show (_ : Nat) ≤ _; omega)
    | (show (_ : Int) ≤ _; omega)
    | (show (_ : Int) < _; omega)
    | (show 0 ≤ sizeLine; decide)
    | (show 1 ≤ sizeLine; decide)
    | (show 2 ≤ sizeLine; decide)
    | (show 3 ≤ sizeLine; decide)
    | (show 4 ≤ sizeLine; decide)
    | (show (_ : Nat) ≤ _; decide)))
local macro_rules | `(tactic| walk_at "go") => `(tactic| repeat walk_at "go1")
/-! ### tests that read alone, loops -/
theorem tor_b {t u : TT} {σ : L2.St} {H : Hp} {Q : Bool → Hp → Prop} (b1 b2 : Bool) (h1 : ∀ Q, Q b1 H → t σ H Q) (h2 : ∀ Q, Q b2 H → u σ H Q) (q : Q (b1 || b2) H) : tOr t u σ H Q := by
  refine h1 _ ?_
  cases b1 with
  | true => rw [if_pos rfl]; exact q
  | false => rw [if_neg (by decide)]; exact h2 _ q
theorem tand_b {t u : TT} {σ : L2.St} {H : Hp} {Q : Bool → Hp → Prop} (b1 b2 : Bool) (h1 : ∀ Q, Q b1 H → t σ H Q) (h2 : ∀ Q, Q b2 H → u σ H Q) (q : Q (b1 && b2) H) : tAnd t u σ H Q := by
  refine h1 _ ?_
  cases b1 with
  | true => rw [if_pos rfl]; exact h2 _ q
  | false => rw [if_neg (by decide)]; exact q
theorem while_ev {c : TT} {tb : TS} {D : Ends} {σ : L2.St} {H : Hp} (Pv : L2.St → Hp → Prop) (μ : L2.St → Hp → Nat) (h0 : Pv σ H)
    (hs : ∀ σ H, Pv σ H → ∃ b : Bool, (∀ Q, Q b H → c σ H Q) ∧ (b = true → tb { D with nx := fun σ' H' => Pv σ' H' ∧ μ σ' H' < μ σ H, ct := fun σ' H' => Pv σ' H' ∧ μ σ' H' < μ σ H, bk := D.nx } σ H) ∧ (b = false → D.nx σ H)) : tWhile c tb D σ H := by
  refine ⟨fun m σ H => m = μ σ H ∧ Pv σ H, ⟨_, rfl, h0⟩, ?_⟩
  rintro m σ H ⟨rfl, p⟩
  obtain ⟨b, h1, h2, h3⟩ := hs σ H p
  refine h1 _ ?_
  cases b with
  | true => exact ⟨_, fun σ' H' ⟨p', l⟩ => ⟨_, l, rfl, p'⟩, h2 rfl⟩
  | false => exact h3 rfl
/-- the loops' bookkeeping, with what follows and what returns told apart -/
theorem for_listD {K : PySem.W.Frag} {a : Addr} {xs : List V} {g : TG} {tb : TS} {nx : L2.St → Hp → Prop} {rt : VK} {σ : L2.St} {H : Hp} (Pv : Nat → L2.St → Hp → Prop) (h0 : Pv 0 σ H) (hl : ∀ i σ H, i ≤ xs.length → Pv i σ H → SqL K H a xs)
    (hs : ∀ i x σ H, xs[i]? = some x → Pv i σ H → g x σ H fun σ2 H2 => tb { nx := Pv (i + 1), rt := rt, bk := nx, ct := Pv (i + 1) } σ2 H2) (hd : ∀ σ H, Pv xs.length σ H → nx σ H) :
    ∃ W : Nat → Nat → L2.St → Hp → Prop, (∃ m, W 0 m σ H) ∧ ∀ i m σ H, W i m σ H → ((Itl K a).stop i H ∧ nx σ H) ∨ ((Itl K a).go i H ∧ ∃ N : L2.St → Hp → Prop, (∀ σ' H', N σ' H' → ∃ m', m' < m ∧ W (i + 1) m' σ' H') ∧
      ∀ x H', (Itl K a).yld i H x H' → g x σ H' fun σ2 H2 => tb { nx := N, rt := rt, bk := nx, ct := N } σ2 H2) := for_list (D := { nx := nx, rt := rt }) Pv h0 hl hs hd
theorem for_rangeD {lo : Int} {n : Nat} {g : TG} {tb : TS} {nx : L2.St → Hp → Prop} {rt : VK} {σ : L2.St} {H : Hp} (Pv : Nat → L2.St → Hp → Prop) (h0 : Pv 0 σ H)
    (hs : ∀ i σ H, i < n → Pv i σ H → g (.int (lo + i)) σ H fun σ2 H2 => tb { nx := Pv (i + 1), rt := rt, bk := nx, ct := Pv (i + 1) } σ2 H2) (hd : ∀ σ H, Pv n σ H → nx σ H) :
    ∃ W : Nat → Nat → L2.St → Hp → Prop, (∃ m, W 0 m σ H) ∧ ∀ i m σ H, W i m σ H → ((Itr lo n).stop i H ∧ nx σ H) ∨ ((Itr lo n).go i H ∧ ∃ N : L2.St → Hp → Prop, (∀ σ' H', N σ' H' → ∃ m', m' < m ∧ W (i + 1) m' σ' H') ∧
      ∀ x H', (Itr lo n).yld i H x H' → g x σ H' fun σ2 H2 => tb { nx := N, rt := rt, bk := nx, ct := N } σ2 H2) := for_range (D := { nx := nx, rt := rt }) Pv h0 hs hd
/-! ### a comprehension that makes f of each item -/
theorem lc_map {K : PySem.W.Frag} {a : Addr} {xs : List V} {j : Nat} {te : TE} {σ : L2.St} {H1 : Hp} {D : Addr} {Qd : Hp → Prop} (f : V → V) (hD : H1 D = none) (hS : SqL K H1 a xs) (hn : xs.length ≤ 100000)
    (hs : ∀ x H Q, x ∈ xs → Same H1 H → (∀ H', Same H H' → Q (f x) H') → te ((σ.set j none).set j (some x)) H Q) (hd : ∀ H, Same H1 H → H D = some (.lst (xs.map f)) → Qd H) :
    ∃ W : Nat → Nat → Hp → Prop, (∃ m, W 0 m (upd H1 D (.lst []))) ∧ ∀ i m H, W i m H →
      ((Itl K a).stop i H ∧ Qd H) ∨ ((Itl K a).go i H ∧ ∃ Nx : Hp → Prop, (∀ H', Nx H' → ∃ m', m' < m ∧ W (i + 1) m' H') ∧ ∀ x H', (Itl K a).yld i H x H' → gName j x (wipe σ [j]) H' fun σ2 H2 => wipe σ2 [j] = wipe σ [j] ∧ tYes σ2 H2 fun b H3 =>
        if b = true then te σ2 H3 fun y H4 => ∃ acc, H4 D = some (.lst acc) ∧ acc.length < sizeLine ∧ Nx (upd H4 D (.lst (acc ++ [y]))) else Nx H3) := by
  refine lc_list (xs := xs) (fun i H => Same H1 H ∧ H D = some (.lst ((xs.take i).map f))) ⟨Same.new hD, by rw [upd_same]; rfl⟩ (fun i H _ h => h.1.seq hS) (fun i x H hx h => ?_) (fun H h => hd H h.1 (by rw [List.take_length] at h; exact h.2))
  have hi : i < xs.length := (List.getElem?_eq_some_iff.mp hx).1
  refine ⟨?_, ?_⟩
  · show (((σ.set j none).set j (some x)).set j none) = σ.set j none
    rw [List.set_set, List.set_set]
  · simp only [tYes, if_true]
    refine hs x H _ (List.mem_of_getElem? hx) h.1 fun H' s' => ?_
    refine ⟨_, s' _ _ h.2, ?_, fun b o e => ?_, ?_⟩
    · rw [List.length_map, List.length_take]; exact small64' (by omega)
    · have nb : b ≠ D := fun z => by rw [z, hD] at e; cases e
      rw [upd_ne nb]; exact s' _ _ (h.1 _ _ e)
    · rw [upd_same, List.take_add_one, hx, List.map_append]; rfl

/-! ### own errors with fields -/
/-- what the top has written of an own error's class, whose base is ValueError by some way -/
structure ExK (K : PySem.W.Frag) (mg : Str → Option Value) (x : Str) (C : Addr) : Prop where
  g : mg x = some (.ref C)
  T : OexC K C
  ga : PySem.W.findIn K (.ref C) "__getattribute__" = some (some (.builtin "BaseException.__getattribute__"))
  gg : PySem.W.findIn K (.ref C) "__getattr__" = some none
  hd : PySem.W.hasDictIn K C = true
  ca : PySem.W.findIn K (.ref C) "__class__" = some (some (.builtin "object.__class__"))
  sp : PySem.W.specialIn K (.builtin "object.__class__") "__get__" = some (some (.builtin "getset_descriptor.__get__"))
  tk : PySem.W.takesIn K (.builtin "object.__class__") = some true
  mr : PySem.W.mroIn K C (.type "object") = some true
theorem ExK.xf {K : PySem.W.Frag} {mg : Str → Option Value} {x : Str} {C : Addr} (k : ExK K mg x C) : XfC K C := ⟨k.ga, k.gg, k.T.exC, k.hd⟩
def spI1 (K : PySem.W.Frag) (C : Addr) (a : Str) : Sp := fun vs H Q _ => ∃ (s : Addr) (v : V), vs = [.ref s, v] ∧ H s = some (exo s C none) ∧
  ∀ d, H d = none → d ≠ s → Q .non (upd (upd H d (exd d [(a, v)])) s (exo s C (some d)))
def spI2 (K : PySem.W.Frag) (C : Addr) (a b : Str) : Sp := fun vs H Q _ => ∃ (s : Addr) (v u : V), vs = [.ref s, v, u] ∧ H s = some (exo s C none) ∧
  ∀ d, H d = none → d ≠ s → Q .non (upd (upd (upd H d (exd d [(a, v)])) s (exo s C (some d))) d (exd d [(b, u), (a, v)]))
theorem del_upd {H : Hp} {s d : Addr} {o o' : HO} (hs : H s = none) (hd : H d = none) (ne : d ≠ s) {K : Hp} (hK : ∀ b, b ≠ s → b ≠ d → K b = H b) : Same H (upd (del K s) d o) := fun b x e => by
  have nd : b ≠ d := ne_of_none e hd
  have ns : b ≠ s := ne_of_none e hs
  rw [upd_ne nd, del_ne ns, hK b ns nd]; exact e
/-- X(v): an error flies whose dict, new at d, holds the field; all else stands -/
theorem fly1 {K : PySem.W.Frag} {C : Addr} {a : Str} {v : V} {H : Hp} {Q : XK} (h : ∀ d Hf, Same H Hf → Hf d = some (.xd [(a, v)]) → Q (.ref C) (some d) Hf) :
    ([v] : List V).length ≤ 1000 ∧ ∀ s, H s = none → spI1 K C a (.ref s :: ([v] ++ [])) (upd H s (exo s C none))
      (fun v H2 => v = .non ∧ ∃ (d : Addr) (fs : List (Str × V)), H2 s = some (exo s C (some d)) ∧ H2 d = some (exd d fs) ∧ H d = none ∧ Q (.ref C) (some d) (upd (del H2 s) d (.xd fs))) (fun _ _ _ => False) := by
  refine ⟨by show 1 ≤ 1000; decide, fun s hs => ⟨s, v, rfl, upd_same, fun d hd ne => ⟨rfl, d, [(a, v)], upd_same, ?_, ?_, ?_⟩⟩⟩
  · rw [upd_ne ne, upd_same]
  · rw [upd_ne ne] at hd; exact hd
  · have hd' : H d = none := by rw [upd_ne ne] at hd; exact hd
    refine h d _ (del_upd (o' := .lst []) hs hd' ne fun b nb nd => ?_) upd_same
    rw [upd_ne nb, upd_ne nd, upd_ne nb]
theorem fly2 {K : PySem.W.Frag} {C : Addr} {a b : Str} {v u : V} {H : Hp} {Q : XK} (h : ∀ d Hf, Same H Hf → Hf d = some (.xd [(b, u), (a, v)]) → Q (.ref C) (some d) Hf) :
    ([v, u] : List V).length ≤ 1000 ∧ ∀ s, H s = none → spI2 K C a b (.ref s :: ([v, u] ++ [])) (upd H s (exo s C none))
      (fun v H2 => v = .non ∧ ∃ (d : Addr) (fs : List (Str × V)), H2 s = some (exo s C (some d)) ∧ H2 d = some (exd d fs) ∧ H d = none ∧ Q (.ref C) (some d) (upd (del H2 s) d (.xd fs))) (fun _ _ _ => False) := by
  refine ⟨by show 2 ≤ 1000; decide, fun s hs => ⟨s, v, u, rfl, upd_same, fun d hd ne => ⟨rfl, d, [(b, u), (a, v)], ?_, upd_same, ?_, ?_⟩⟩⟩
  · rw [upd_ne ne.symm, upd_same]
  · rw [upd_ne ne] at hd; exact hd
  · have hd' : H d = none := by rw [upd_ne ne] at hd; exact hd
    refine h d _ (del_upd (o' := .lst []) hs hd' ne fun b nb nd => ?_) upd_same
    rw [upd_ne nd, upd_ne nb, upd_ne nd, upd_ne nb]
section
variable {P : Program} {w : World} {K : PySem.W.Frag} {mg : Str → Option Value} {base : Heap} {C f : Addr} {fd : FuncData} {qual : Str}
/-- an __init__ that stores its one parameter, its two parameters, under their names -/
theorem init1 {st : Stmt} {a : Str} (F : L2.Fun K "__init__" qual st f fd) (S : FnScope ["self", a] ["self", a] (defScope st)) (T : OexC K C) (na : PySem.W.findIn K (.ref C) a = some none) {p1 p2 p3 p4 : Pos} (hb : defBody st = [.Assign [.Attribute (.Name "self" p1) a p2] (.Name a p3) p4])
    (va : Vis (defScope st) a) (vs : Vis (defScope st) "self") (d1 : (a == ("__debug__" : Str)) = false) (d2 : (a == ("__classdict__" : Str)) = false) : FnOk P w K mg base CX0 1 f fd ["self", a] (spI1 K C a) := by
  refine F.ok S (fun vs H Q E h => ?_) (fun cdv A outer s H vs Q E hr h => ?_)
  · obtain ⟨s, v, rfl, _⟩ := h; rfl
  · obtain ⟨s, v, rfl, hs, q⟩ := h
    rw [hb]
    refine ⟨_, pss_one (ps_ost (pe_var (i := 0) rfl (by assumption)) (pe_var (i := 1) rfl (by assumption) d1 d2)), ?_⟩
    exact ⟨_, rfl, _, rfl, s, C, rfl, T, na, .inl ⟨hs, fun d hd ne => q d hd ne⟩⟩
theorem init2 {st : Stmt} {a b : Str} (F : L2.Fun K "__init__" qual st f fd) (S : FnScope ["self", a, b] ["self", a, b] (defScope st)) (T : OexC K C) (na : PySem.W.findIn K (.ref C) a = some none) (nb : PySem.W.findIn K (.ref C) b = some none) {p1 p2 p3 p4 q1 q2 q3 q4 : Pos}
    (hb : defBody st = [.Assign [.Attribute (.Name "self" p1) a p2] (.Name a p3) p4, .Assign [.Attribute (.Name "self" q1) b q2] (.Name b q3) q4])
    (va : Vis (defScope st) a) (vb : Vis (defScope st) b) (vs : Vis (defScope st) "self") (d1 : (a == ("__debug__" : Str)) = false) (d2 : (a == ("__classdict__" : Str)) = false) (d3 : (b == ("__debug__" : Str)) = false) (d4 : (b == ("__classdict__" : Str)) = false) : FnOk P w K mg base CX0 1 f fd ["self", a, b] (spI2 K C a b) := by
  refine F.ok S (fun vs H Q E h => ?_) (fun cdv A outer s H vs Q E hr h => ?_)
  · obtain ⟨s, v, u, rfl, _⟩ := h; rfl
  · obtain ⟨s, v, u, rfl, hs, q⟩ := h
    rw [hb]
    refine ⟨_, pss_cons (ps_ost (pe_var (i := 0) rfl (by assumption)) (pe_var (i := 1) rfl (by assumption) d1 d2)) (pss_one (ps_ost (pe_var (i := 0) rfl (by assumption)) (pe_var (i := 2) rfl (by assumption) d3 d4))), ?_⟩
    refine ⟨_, rfl, _, rfl, s, C, rfl, T, na, .inl ⟨hs, fun d hd ne => ?_⟩⟩
    exact ⟨_, rfl, _, rfl, s, C, rfl, T, nb, .inr ⟨d, _, upd_same, by rw [upd_ne ne, upd_same], (by show 1 ≤ 900; decide), q d hd ne⟩⟩
end
/-- isinstance(e, c), e the caught error at a, of the class D, its dict at dd -/
theorem call_isX {X : Cx} {a D : Addr} {oe : Obj} {cls : Value} {d : Option Addr} {pn : List (Addr × Obj)} (hz : Zc cls d oe) (hf : ∃ vs, oe.data = .fields vs) {x : Str} (k : ExK X.K X.mg x D) : CallR (X.suite a ((a, oe) :: pn)) (.builtin "isinstance")
    (fun xs H Q => ∃ (c : V) (cv : Value) (b : Bool) (dd : Addr) (fs : List (Str × V)), xs = [.ref a, c] ∧ cls = .ref D ∧ d = some dd ∧ H dd = some (.xd fs) ∧ RelV c cv ∧ (∀ u, RelV c u → u = cv) ∧ PySem.W.kitOne X.K (.ref D) cv = some b ∧ Q (.bl b) H) := by
  intro pins s σ H xs us Q I r h
  obtain ⟨c, cv, b, dd, fs, rfl, rfl, rfl, ea, _, hcv, e, q⟩ := h
  obtain ⟨u1, u2, rfl, r1, r2⟩ := vals2 r
  cases r1
  have ec := hcv _ r2
  subst ec
  obtain ⟨hget, _⟩ := I.pin (a, oe) (List.mem_append.mpr (.inl List.mem_cons_self))
  obtain ⟨vs, hv⟩ := hf
  have hx : ObjOk X.prog X.w H s.heap dd (.xd fs) := I.hok dd _ ea
  obtain ⟨mA, ⟨od, es, ep, ho, hl⟩, hr⟩ := hx
  have J : PySem.W.InstAt s.heap a oe D (some od) := ⟨hget, hz.1, by unfold PySem.W.notCls; rw [hv] <;> rfl, by rw [hz.2]; exact ho⟩
  have hc : (PySem.W.clsIn X.K D).isSome = true := by
    have h := k.hd
    unfold PySem.W.hasDictIn at h
    cases hh : PySem.W.clsIn X.K D with
    | none => rw [hh] at h; cases h
    | some cd => rfl
  exact PySem.W.kia_one (PySem.W.kitx_exc hc k.ga k.gg k.T.exC k.ca k.sp k.tk k.mr) I.kIn J e (fun z => nomatch z) fun tk => ⟨.bl b, H, I.kept (t' := tk) fun _ _ z => z, rfl, q⟩
/-- what isinstance and an except clause ask of own classes -/
theorem kit_self {K : PySem.W.Frag} {C : Addr} : PySem.W.kitOne K (.ref C) (.ref C) = some true := by
  unfold PySem.W.kitOne
  rw [if_pos (by exact beq_self_eq_true (Value.ref C))]
theorem kit_two {K : PySem.W.Frag} {D C : Addr} {b : Bool} (ne : (Value.ref D == Value.ref C) = false) (hd : PySem.W.hasDictIn K C = true) (ht : PySem.W.typeIn K (.ref C) = some (.type "type")) (hs : PySem.W.subIn K (.ref D) (.ref C) = some b) : PySem.W.kitOne K (.ref D) (.ref C) = some b := by
  have hc : (PySem.W.clsIn K C).isSome = true := by
    unfold PySem.W.hasDictIn at hd
    cases hh : PySem.W.clsIn K C with
    | none => rw [hh] at hd; cases hd
    | some cd => rfl
  unfold PySem.W.kitOne PySem.W.kitCls
  rw [ne, if_neg (by decide)]
  show (if ((PySem.W.clsIn K C).isSome && PySem.W.typeIn K (.ref C) == some (.type "type")) = true then PySem.W.subIn K (.ref D) (.ref C) else none) = some b
  rw [hc, ht, hs]; rfl
theorem kit_ve {K : PySem.W.Frag} {D : Addr} (hs : PySem.W.subIn K (.ref D) (.type "ValueError") = some true) : PySem.W.kitOne K (.ref D) (.type "ValueError") = some true := by
  unfold PySem.W.kitOne PySem.W.kitCls
  rw [show (Value.ref D == Value.type "ValueError") = false from rfl, if_neg (by decide)]
  show (if PySem.W.kitMeta "ValueError" = true then PySem.W.subIn K (.ref D) (.type "ValueError") else none) = some true
  rw [if_pos (by decide +kernel), hs]

/-! ### methods and makers of own classes -/
structure DefM (K : PySem.W.Frag) (C : Addr) (m qual : Str) (st : Stmt) (ps : List Str) : Prop where
  ex : ∃ (f : Addr) (fd : FuncData), L2.Fun K m qual st f fd ∧ Meth K C m f ∧ Binds K fd ps []
structure DefI (K : PySem.W.Frag) (C : Addr) (qual : Str) (st : Stmt) (ps : List Str) : Prop where
  ex : ∃ (f : Addr) (fd : FuncData), L2.Fun K "__init__" qual st f fd ∧ Mk K C f ∧ Binds K fd ps []
structure CalM (P : Program) (w : World) (K : PySem.W.Frag) (mg : Str → Option Value) (base : Heap) (CX : CXT) (C : Addr) (k : Nat) (m : Str) (sp : Sp) : Prop where
  ex : ∃ (f : Addr) (fd : FuncData) (ps : List Str), FnOk P w K mg base CX k f fd ps sp ∧ Cls K C ∧ Meth K C m f ∧ Binds K fd ps []
structure CalI (P : Program) (w : World) (K : PySem.W.Frag) (mg : Str → Option Value) (base : Heap) (CX : CXT) (C : Addr) (k : Nat) (sp : Sp) : Prop where
  ex : ∃ (f : Addr) (fd : FuncData) (ps : List Str), FnOk P w K mg base CX k f fd ps sp ∧ Mk K C f ∧ Binds K fd ps []
section
variable {P : Program} {w : World} {K : PySem.W.Frag} {mg : Str → Option Value} {base : Heap} {k : Nat} {x m qual : Str} {sp sp' : Sp} {C : Addr}
theorem Def.none {st : Stmt} {N ps : List Str} (D : Def K mg x st ps) (S : FnScope N ps (defScope st)) : Cal P w K mg base CX0 (k + 1) x (fun _ _ _ _ => False) := D.ok S (fun _ _ _ _ h => h.elim) (fun _ _ _ _ _ _ _ _ _ _ h => h.elim)
theorem Def.noneX {st : Stmt} {N ps : List Str} (D : Def K mg x st ps) (S : FnScope N ps (defScope st)) : Cal P w K mg base (L2.CX P w) (k + 1) x (fun _ _ _ _ => False) := D.okX S (fun _ _ _ _ h => h.elim) (fun _ _ _ _ _ _ _ _ _ _ h => h.elim)
theorem DefM.ok {st : Stmt} {N ps : List Str} (D : DefM K C m qual st ps) (S : FnScope N ps (defScope st)) (cl : Cls K C) (len : ∀ vs H Q E, sp vs H Q E → vs.length = ps.length)
    (hbody : ∀ (f : Addr) (cdv : Value) (A : Around) (outer : List Env) (s : Shared) (H : Hp) (vs : List V) (Q : VK) (E : XK), Room k (A.deeper (envOfC qual (defScope st) s.heap.objs.size f cdv)) → sp vs H Q E →
      ∃ t, PSs (cxOf CX0 P w K mg base N qual (defScope st) f cdv A outer s H E).nox (defBody st) t ∧ t { nx := fun _ H' => Q .non H', rt := Q } (start N vs) H) : CalM P w K mg base CX0 C (k + 1) m sp := by
  obtain ⟨f, fd, F, mm, b⟩ := D.ex
  exact ⟨f, fd, ps, F.ok S len (hbody f), cl, mm, b⟩
theorem DefM.okX {st : Stmt} {N ps : List Str} (D : DefM K C m qual st ps) (S : FnScope N ps (defScope st)) (cl : Cls K C) (len : ∀ vs H Q E, sp vs H Q E → vs.length = ps.length)
    (hbody : ∀ (f : Addr) (cdv : Value) (A : Around) (outer : List Env) (s : Shared) (H : Hp) (vs : List V) (Q : VK) (E : XK), Room k (A.deeper (envOfC qual (defScope st) s.heap.objs.size f cdv)) → sp vs H Q E →
      ∃ t, PSs (cxOf (L2.CX P w) P w K mg base N qual (defScope st) f cdv A outer s H E) (defBody st) t ∧ t { nx := fun _ H' => Q .non H', rt := Q } (start N vs) H) : CalM P w K mg base (L2.CX P w) C (k + 1) m sp := by
  obtain ⟨f, fd, F, mm, b⟩ := D.ex
  exact ⟨f, fd, ps, F.okX S len (hbody f), cl, mm, b⟩
theorem DefI.ok {st : Stmt} {N ps : List Str} (D : DefI K C qual st ps) (S : FnScope N ps (defScope st)) (len : ∀ vs H Q E, sp vs H Q E → vs.length = ps.length)
    (hbody : ∀ (f : Addr) (cdv : Value) (A : Around) (outer : List Env) (s : Shared) (H : Hp) (vs : List V) (Q : VK) (E : XK), Room k (A.deeper (envOfC qual (defScope st) s.heap.objs.size f cdv)) → sp vs H Q E →
      ∃ t, PSs (cxOf CX0 P w K mg base N qual (defScope st) f cdv A outer s H E).nox (defBody st) t ∧ t { nx := fun _ H' => Q .non H', rt := Q } (start N vs) H) : CalI P w K mg base CX0 C (k + 1) sp := by
  obtain ⟨f, fd, F, mm, b⟩ := D.ex
  exact ⟨f, fd, ps, F.ok S len (hbody f), mm, b⟩
end
section
variable {X : Cx} {k j : Nat} {x m : Str} {sp : Sp} {p pos apos : Pos} {o e : Expr} {es : List Expr} {ta : TE} {t : TA} {CX : CXT} {E : XK} {C : Addr}
theorem pe_mE {pl : Sem Bool} (c : CalM X.prog X.w X.K X.mg X.base CX C k m sp) (hr : Room j X.A) (hk : k ≤ j) (hx : Passes CX X E) (he : PE X o ta) (ha : PA X (e :: es) t)
    (hst : starEach (e :: es) X.env = (false, eval e X.env) :: starEach es X.env := by rfl) (hpl : (backTo pos (starEach es X.env)).any (·.1) = false := by rfl)
    (ht : eval (.Call (.Attribute o m apos) (e :: es) [] pos) X.env = (do
      let ov ← eval o X.env
      standAt apos.atName
      let (f, first) ← holding [ov] (getMethod ov m pl)
      callWith pos f first (backTo pos (starEach (e :: es) X.env)) (backToKw pos (keywordEach [] X.env))) := by rfl) :
    PE X (.Call (.Attribute o m apos) (e :: es) [] pos) (tMeth C m sp [] E ta t) := by
  obtain ⟨f, fd, ps, F, cl, mm, b⟩ := c.ex
  exact pe_meth (pl := pl) he cl mm F (hr.mono hk) b .nil hx ha hst hpl ht
theorem pe_mE0 {pl : Sem Bool} (c : CalM X.prog X.w X.K X.mg X.base CX C k m sp) (hr : Room j X.A) (hk : k ≤ j) (hx : Passes CX X E) (he : PE X o ta)
    (ht : eval (.Call (.Attribute o m apos) [] [] pos) X.env = (do
      let ov ← eval o X.env
      standAt apos.atName
      let (f, first) ← holding [ov] (getMethod ov m pl)
      callWith pos f first (backTo pos (starEach [] X.env)) (backToKw pos (keywordEach [] X.env))) := by rfl) :
    PE X (.Call (.Attribute o m apos) [] [] pos) (tMeth C m sp [] E ta tNil) := by
  obtain ⟨f, fd, ps, F, cl, mm, b⟩ := c.ex
  exact pe_meth0 (pl := pl) he cl mm F (hr.mono hk) b .nil hx ht
theorem pe_nw (c : CalI X.prog X.w X.K X.mg X.base CX0 C k sp) (hr : Room j X.A) (hk : k + 1 ≤ j) (hg : Gl X x) (hm : X.mg x = some (.ref C)) (ha : PA X (e :: es) t)
    (hdb : (x == ("__debug__" : Str)) = false := by decide) (he : starEach (e :: es) X.env = (false, eval e X.env) :: starEach es X.env := by rfl) (hpl : (backTo pos (starEach es X.env)).any (·.1) = false := by rfl) :
    PE X (.Call (.Name x p) (e :: es) [] pos) (tMake C sp [] E0 t) := by
  obtain ⟨f, fd, ps, F, mm, b⟩ := c.ex
  exact pe_make mm F (hr.mono hk) hg hm b .nil pass0 ha hdb he hpl
theorem pe_nw0 (c : CalI X.prog X.w X.K X.mg X.base CX0 C k sp) (hr : Room j X.A) (hk : k + 1 ≤ j) (hg : Gl X x) (hm : X.mg x = some (.ref C))
    (hdb : (x == ("__debug__" : Str)) = false := by decide) : PE X (.Call (.Name x p) [] [] pos) (tMake C sp [] E0 tNil) := by
  obtain ⟨f, fd, ps, F, mm, b⟩ := c.ex
  exact pe_make0 mm F (hr.mono hk) hg hm b .nil pass0 hdb
end
/-- the heap behind a change of some objects: all others stand -/
def SameBut (ps : List Addr) (H H' : Hp) : Prop := ∀ b o, b ∉ ps → H b = some o → H' b = some o
theorem Same.but {ps : List Addr} {H H' : Hp} (s : Same H H') : SameBut ps H H' := fun b o _ e => s b o e
theorem SameBut.refl {ps : List Addr} (H : Hp) : SameBut ps H H := fun _ _ _ e => e
theorem SameBut.trans {ps : List Addr} {H1 H2 H3 : Hp} (a : SameBut ps H1 H2) (b : SameBut ps H2 H3) : SameBut ps H1 H3 := fun c o n e => b c o n (a c o n e)
theorem SameBut.upd {ps : List Addr} {H H' : Hp} {a : Addr} {o : HO} (s : SameBut ps H H') (h : a ∈ ps) : SameBut ps H (upd H' a o) := fun b x n e => by
  have nb : b ≠ a := fun z => n (z ▸ h)
  rw [upd_ne nb]; exact s b x n e
theorem lk_hd {k : Str} {v : V} {r : List (Str × V)} : ((k, v) :: r).lookup k = some v := by
  simp [List.lookup]
theorem lk_tl {k a : Str} {v : V} {r : List (Str × V)} (h : ¬ k = a) : ((a, v) :: r).lookup k = r.lookup k := by
  show (match k == a with | true => some v | false => r.lookup k) = _
  rw [beq_eq_false_iff_ne.mpr h]
theorem pt_hd {k : Str} {v x : V} {r : List (Str × V)} : putF k v ((k, x) :: r) = (k, v) :: r := if_pos rfl
theorem pt_tl {k a : Str} {v x : V} {r s : List (Str × V)} (h : ¬ a = k) (e : putF k v r = s) : putF k v ((a, x) :: r) = (a, x) :: s := (if_neg h).trans (congrArg _ e)
theorem pt_nl {k : Str} {v : V} : putF k v [] = [(k, v)] := rfl
theorem made_same {H H2 : Hp} {x dx C : Addr} (nx : H x = none) (nd : H dx = none) (s : SameBut [x] (upd (upd H dx (.own x)) x (.ins C dx [])) H2) : Same H H2 := fun b o e => by
  have n1 : b ≠ x := ne_of_none e nx
  have n2 : b ≠ dx := ne_of_none e nd
  exact s b o (fun z => n1 (List.mem_singleton.mp z)) (by rw [upd_ne n1, upd_ne n2]; exact e)
theorem SameBut.new {ps : List Addr} {H H3 H4 : Hp} {t : Addr} (b3 : SameBut ps H H3) (b4 : SameBut [t] H3 H4) (h : H t = none) : SameBut ps H H4 := fun c o n e =>
  b4 c o (fun z => by rw [List.mem_singleton.mp z, h] at e; cases e) (b3 c o n e)
theorem Same.of_but {ps : List Addr} {H H1 H2 : Hp} (s : Same H H1) (b : SameBut ps H1 H2) (h : ∀ a ∈ ps, H a = none) : Same H H2 := fun c o e =>
  b c o (fun z => by rw [h c z] at e; cases e) (s c o e)
theorem SameBut.mono {ps qs : List Addr} {H H' : Hp} (s : SameBut ps H H') (h : ∀ a ∈ ps, a ∈ qs) : SameBut qs H H' := fun b o n e => s b o (fun z => n (h b z)) e

/-! ### makers with keyword-only parameters -/
structure DefK (K : PySem.W.Frag) (C : Addr) (qual : Str) (st : Stmt) (kws : List (Str × V)) : Prop where
  ex : ∃ (f : Addr) (fd : FuncData), FunD K "__init__" qual (defArgs st) (defBody st) (defScope st) [] kws f fd ∧ Mk K C f
structure CalK (P : Program) (w : World) (K : PySem.W.Frag) (mg : Str → Option Value) (base : Heap) (CX : CXT) (C : Addr) (k : Nat) (sp : Sp) (ks : List Str) (gV : List V → List V → List V) : Prop where
  ex : ∃ (f : Addr) (fd : FuncData) (ps : List Str) (g : List Value → List Value → List Value), FnOk P w K mg base CX k f fd ps sp ∧ Mk K C f ∧ KBn K fd ps 1 ks g gV
/-- an empty tuple of the written part -/
def EmpT (K : PySem.W.Frag) (a : Addr) : Prop := ∃ (o : Obj) (its : Array Value) (n : Nat), K.lookup a = some o ∧ o.cls = .type "tuple" ∧ o.data = .seq its n ∧ its.size ≤ sizeLine ∧ Vals [] its.toList
theorem EmpT.sq {K : PySem.W.Frag} {a : Addr} {H : Hp} (h : EmpT K a) : SqT K H a [] := .inr h
section
variable {P : Program} {w : World} {K : PySem.W.Frag} {mg : Str → Option Value} {base : Heap} {k : Nat} {qual : Str} {sp : Sp} {C : Addr}
theorem rel3 {vs mz zs : List V} {us mv ws : List Value} (r1 : Vals vs us) (r2 : Vals mz mv) (r3 : Vals zs ws) : Vals (vs ++ (zs ++ mz)) (us ++ (ws ++ mv)) := r1.append (r3.append r2)
theorem DefK.ok {st : Stmt} {N ps : List Str} {kws : List (Str × V)} (D : DefK K C qual st kws) (S : FnScope N ps (defScope st)) (ks : List Str) (ms : List (Str × V)) (hk : kws ≠ []) (hms : ∀ q ∈ ms, q ∈ kws)
    (hc : ∀ (D : Addr) (doc pm : Value) (an : Option Addr) (cdv ct : Value) (us mv ws : List Value), us.length = 1 → mv.length = ms.length → ws.length = ks.length →
      KwChain D ((ms.map (·.1)).zip mv) (bindArgs (PySem.W.fnOf "__init__" qual (defArgs st) (defBody st) (defScope st) .none (.ref D) doc pm an cdv ct) ⟨us, ks.zip ws⟩) (ps.zip (us ++ (ws ++ mv))))
    (len : ∀ vs H Q E, sp vs H Q E → vs.length = ps.length)
    (hbody : ∀ (f : Addr) (cdv : Value) (A : Around) (outer : List Env) (s : Shared) (H : Hp) (vs : List V) (Q : VK) (E : XK), Room k (A.deeper (envOfC qual (defScope st) s.heap.objs.size f cdv)) → sp vs H Q E →
      ∃ t, PSs (cxOf CX0 P w K mg base N qual (defScope st) f cdv A outer s H E).nox (defBody st) t ∧ t { nx := fun _ H' => Q .non H', rt := Q } (start N vs) H) :
    CalK P w K mg base CX0 C (k + 1) sp ks (fun vs zs => vs ++ (zs ++ ms.map (·.2))) := by
  obtain ⟨f, fd, F, mm⟩ := D.ex
  obtain ⟨mv, kb⟩ := F.kbinds0 (ps := ps) 1 ks ms (fun us mv ws => us ++ (ws ++ mv)) hk hms (fun r1 r2 r3 => rel3 r1 r2 r3) hc
  exact ⟨f, fd, ps, _, F.ok S len fun cdv A outer s H vs Q E hr h => by
    obtain ⟨t, ht, hq⟩ := hbody f cdv A outer s H vs Q E hr h
    exact ⟨t, ht.nox, hq⟩, mm, kb⟩
end
section
variable {X : Cx} {k j : Nat} {x : Str} {sp : Sp} {p pos : Pos} {kws : List Keyword} {tk : TA} {C : Addr} {ks : List Str} {gV : List V → List V → List V}
theorem pe_nk (c : CalK X.prog X.w X.K X.mg X.base CX0 C k sp ks gV) (hr : Room j X.A) (hk : k + 1 ≤ j) (hg : Gl X x) (hm : X.mg x = some (.ref C)) (hkw : PK X kws tk)
    (hall : (backToKw pos (keywordEach kws X.env)).all (·.1.isSome) = true := by rfl) (hks : (backToKw pos (keywordEach kws X.env)).filterMap (·.1) = ks := by rfl) (hdb : (x == ("__debug__" : Str)) = false := by decide)
    (hpl : ((backTo pos (starEach [] X.env)).any (·.1) || (backToKw pos (keywordEach kws X.env)).any (·.1.isNone)) = false := by rfl) :
    PE X (.Call (.Name x p) [] kws pos) (tMakeK C 0 ks.length sp gV E0 tNil tk) := by
  obtain ⟨f, fd, ps, g, F, mm, b⟩ := c.ex
  exact pe_makeK0 mm F (hr.mono hk) hg hm b pass0 hkw hall hks hdb hpl
end

/-! ### the text by places -/
def top (i : Nat) : Stmt := PySem.Challenge.pw_wasmhost_k44_resolve_tells_the_first_fau.main.body.getD i (.Pass ⟨0, 0, 0, 0⟩)
abbrev s_items_of : Stmt := top 6
abbrev s_host_functions : Stmt := top 7
abbrev s_lookup : Stmt := top 11
abbrev s_check_signature : Stmt := top 19
abbrev s_add_host : Stmt := top 20
abbrev s_size_fits : Stmt := top 21
abbrev s_item_fits : Stmt := top 22
abbrev s_resolve : Stmt := top 23
abbrev s__law_tape : Stmt := top 27
abbrev s__law_draw : Stmt := top 28
abbrev s__law_is_int : Stmt := top 29
abbrev s__law_shapes : Stmt := top 30
abbrev s__law_items : Stmt := top 31
abbrev s__law_store : Stmt := top 32
abbrev s__law_pair : Stmt := top 33
abbrev s__law_what : Stmt := top 34
abbrev s__law_fits : Stmt := top 35
abbrev s__law_imports : Stmt := top 36
abbrev s__law_due : Stmt := top 37
abbrev s__law_answer : Stmt := top 38
abbrev s_law : Stmt := top 39
abbrev s_Table___init__ : Stmt := inClass (top 14) 0
abbrev s_Memory___init__ : Stmt := inClass (top 15) 0
abbrev s_Global___init__ : Stmt := inClass (top 16) 0
abbrev s_Store___init__ : Stmt := inClass (top 17) 0
abbrev s_Module___init__ : Stmt := inClass (top 25) 0
theorem sc_items_of : FnScope ["owner", "kind"] ["owner", "kind"] (defScope s_items_of) := ⟨rfl, rfl, rfl, by decide +kernel, rfl, by decide +kernel, by decide +kernel⟩
theorem sc_host_functions : FnScope ["store", "func", "row"] ["store"] (defScope s_host_functions) := ⟨rfl, rfl, rfl, by decide +kernel, rfl, by decide +kernel, by decide +kernel⟩
theorem sc_lookup : FnScope ["names", "module", "name", "row"] ["names", "module", "name"] (defScope s_lookup) := ⟨rfl, rfl, rfl, by decide +kernel, rfl, by decide +kernel, by decide +kernel⟩
theorem sc_check_signature : FnScope ["params", "results"] ["params", "results"] (defScope s_check_signature) := ⟨rfl, rfl, rfl, by decide +kernel, rfl, by decide +kernel, by decide +kernel⟩
theorem sc_add_host : FnScope ["store", "params", "results", "number"] ["store", "params", "results"] (defScope s_add_host) := ⟨rfl, rfl, rfl, by decide +kernel, rfl, by decide +kernel, by decide +kernel⟩
theorem sc_size_fits : FnScope ["size", "most", "limit", "least", "greatest"] ["size", "most", "limit"] (defScope s_size_fits) := ⟨rfl, rfl, rfl, by decide +kernel, rfl, by decide +kernel, by decide +kernel⟩
theorem sc_item_fits : FnScope ["store", "module", "row", "number", "kind", "what", "item"] ["store", "module", "row", "number"] (defScope s_item_fits) := ⟨rfl, rfl, rfl, by decide +kernel, rfl, by decide +kernel, by decide +kernel⟩
theorem sc_resolve : FnScope ["store", "names", "module", "found", "numbers", "index", "row", "kind", "number"] ["store", "names", "module"] (defScope s_resolve) := ⟨rfl, rfl, rfl, by decide +kernel, rfl, by decide +kernel, by decide +kernel⟩
theorem sc__law_tape : FnScope ["script", "tape", "cell", "number", "k", "first"] ["script"] (defScope s__law_tape) := ⟨rfl, rfl, rfl, by decide +kernel, rfl, by decide +kernel, by decide +kernel⟩
theorem sc__law_draw : FnScope ["tape", "at", "many", "number"] ["tape", "at", "many"] (defScope s__law_draw) := ⟨rfl, rfl, rfl, by decide +kernel, rfl, by decide +kernel, by decide +kernel⟩
theorem sc__law_is_int : FnScope ["actual"] ["actual"] (defScope s__law_is_int) := ⟨rfl, rfl, rfl, by decide +kernel, rfl, by decide +kernel, by decide +kernel⟩
theorem sc__law_shapes : FnScope [] [] (defScope s__law_shapes) := ⟨rfl, rfl, rfl, by decide +kernel, rfl, by decide +kernel, by decide +kernel⟩
theorem sc__law_items : FnScope ["tape", "shapes", "functions", "tags", "tables", "memories", "variables", "k"] ["tape"] (defScope s__law_items) := ⟨rfl, rfl, rfl, by decide +kernel, rfl, by decide +kernel, by decide +kernel⟩
theorem sc__law_store : FnScope ["items", "store", "shape", "size", "kind"] ["items"] (defScope s__law_store) := ⟨rfl, rfl, rfl, by decide +kernel, rfl, by decide +kernel, by decide +kernel⟩
theorem sc__law_pair : FnScope ["tape", "at"] ["tape", "at"] (defScope s__law_pair) := ⟨rfl, rfl, rfl, by decide +kernel, rfl, by decide +kernel, by decide +kernel⟩
theorem sc__law_what : FnScope ["tape", "at", "kind", "item", "shapes", "least", "found", "k"] ["tape", "at", "kind", "item"] (defScope s__law_what) := ⟨rfl, rfl, rfl, by decide +kernel, rfl, by decide +kernel, by decide +kernel⟩
theorem sc__law_fits : FnScope ["kind", "what", "item"] ["kind", "what", "item"] (defScope s__law_fits) := ⟨rfl, rfl, rfl, by decide +kernel, rfl, by decide +kernel, by decide +kernel⟩
theorem sc__law_imports : FnScope ["tape", "names", "items", "rows", "k", "base", "pair", "kind", "number", "name", "row"] ["tape", "names", "items"] (defScope s__law_imports) := ⟨rfl, rfl, rfl, by decide +kernel, rfl, by decide +kernel, by decide +kernel⟩
theorem sc__law_due : FnScope ["rows", "names", "items", "found", "k", "known", "name"] ["rows", "names", "items"] (defScope s__law_due) := ⟨rfl, rfl, rfl, by decide +kernel, rfl, by decide +kernel, by decide +kernel⟩
theorem sc__law_answer : FnScope ["store", "names", "module", "answer", "e"] ["store", "names", "module"] (defScope s__law_answer) := ⟨rfl, rfl, rfl, by decide +kernel, rfl, by decide +kernel, by decide +kernel⟩
theorem sc_law : FnScope ["script", "tape", "items", "store", "names", "k", "rows", "module", "passed", "answer", "due", "base", "pair", "kind", "index", "name"] ["script"] (defScope s_law) := ⟨rfl, rfl, rfl, by decide +kernel, rfl, by decide +kernel, by decide +kernel⟩
theorem sc_Table___init__ : FnScope ["self", "size", "most"] ["self", "size", "most"] (defScope s_Table___init__) := ⟨rfl, rfl, rfl, by decide +kernel, rfl, by decide +kernel, by decide +kernel⟩
theorem sc_Memory___init__ : FnScope ["self", "pages", "most"] ["self", "pages", "most"] (defScope s_Memory___init__) := ⟨rfl, rfl, rfl, by decide +kernel, rfl, by decide +kernel, by decide +kernel⟩
theorem sc_Global___init__ : FnScope ["self", "kind", "mutable", "value"] ["self", "kind", "mutable", "value"] (defScope s_Global___init__) := ⟨rfl, rfl, rfl, by decide +kernel, rfl, by decide +kernel, by decide +kernel⟩
theorem sc_Store___init__ : FnScope ["self"] ["self"] (defScope s_Store___init__) := ⟨rfl, rfl, rfl, by decide +kernel, rfl, by decide +kernel, by decide +kernel⟩
theorem sc_Module___init__ : FnScope ["self", "signatures", "imports", "functions", "tables", "memories", "tags", "variables", "exports", "start", "table_segments", "memory_segments"] ["self", "signatures", "imports", "functions", "tables", "memories", "tags", "variables", "exports", "start", "table_segments", "memory_segments"] (defScope s_Module___init__) := ⟨rfl, rfl, rfl, by decide +kernel, rfl, by decide +kernel, by decide +kernel⟩
/-- where the own classes stand -/
structure Cs where
  C_HostError : Addr
  C_ImportMissing : Addr
  I_ImportMissing : Addr
  D_ImportMissing : FuncData
  C_ImportUnfit : Addr
  I_ImportUnfit : Addr
  D_ImportUnfit : FuncData
  C_LimitReached : Addr
  I_LimitReached : Addr
  D_LimitReached : FuncData
  C_Table : Addr
  C_Memory : Addr
  C_Global : Addr
  C_Store : Addr
  C_Module : Addr
  e_Module_signatures : Addr
  e_Module_imports : Addr
  e_Module_functions : Addr
  e_Module_tables : Addr
  e_Module_memories : Addr
  e_Module_tags : Addr
  e_Module_variables : Addr
  e_Module_exports : Addr
  e_Module_table_segments : Addr
  e_Module_memory_segments : Addr
abbrev i_ImportMissing : Stmt := inClass (top 2) 0
theorem sci_ImportMissing : FnScope ["self", "index"] ["self", "index"] (defScope i_ImportMissing) := ⟨rfl, rfl, rfl, by decide +kernel, rfl, by decide +kernel, by decide +kernel⟩
abbrev i_ImportUnfit : Stmt := inClass (top 3) 0
theorem sci_ImportUnfit : FnScope ["self", "index"] ["self", "index"] (defScope i_ImportUnfit) := ⟨rfl, rfl, rfl, by decide +kernel, rfl, by decide +kernel, by decide +kernel⟩
abbrev i_LimitReached : Stmt := inClass (top 4) 0
theorem sci_LimitReached : FnScope ["self", "what"] ["self", "what"] (defScope i_LimitReached) := ⟨rfl, rfl, rfl, by decide +kernel, rfl, by decide +kernel, by decide +kernel⟩
/-! the attributes of an object of Table -/
def fs_Table (x0 x1 : V) : List (Str × V) := [("entries", x0), ("most", x1)]
theorem lk_Table_entries {x0 x1 : V} : (fs_Table x0 x1).lookup ("entries" : Str) = some x0 := lk_hd
theorem pt_Table_entries {x0 x1 v : V} : putF "entries" v (fs_Table x0 x1) = fs_Table v x1 := pt_hd
theorem lk_Table_most {x0 x1 : V} : (fs_Table x0 x1).lookup ("most" : Str) = some x1 := (lk_tl (by decide +kernel)).trans (lk_hd)
theorem pt_Table_most {x0 x1 v : V} : putF "most" v (fs_Table x0 x1) = fs_Table x0 v := pt_tl (by decide +kernel) (pt_hd)
theorem no_Table___init__ {x0 x1 : V} : (fs_Table x0 x1).lookup ("__init__" : Str) = none := (lk_tl (by decide +kernel)).trans ((lk_tl (by decide +kernel)).trans (rfl))
theorem in_Table_0 {x0 x1 : V} : putF "entries" x0 ([] : List (Str × V)) = [(("entries" : Str), x0)] := pt_nl
theorem in_Table_1 {x0 x1 : V} : putF "most" x1 ([(("entries" : Str), x0)] : List (Str × V)) = [(("entries" : Str), x0), (("most" : Str), x1)] := pt_tl (by decide +kernel) (pt_nl)
/-! the attributes of an object of Memory -/
def fs_Memory (x0 x1 x2 : V) : List (Str × V) := [("pages", x0), ("most", x1), ("cells", x2)]
theorem lk_Memory_pages {x0 x1 x2 : V} : (fs_Memory x0 x1 x2).lookup ("pages" : Str) = some x0 := lk_hd
theorem pt_Memory_pages {x0 x1 x2 v : V} : putF "pages" v (fs_Memory x0 x1 x2) = fs_Memory v x1 x2 := pt_hd
theorem lk_Memory_most {x0 x1 x2 : V} : (fs_Memory x0 x1 x2).lookup ("most" : Str) = some x1 := (lk_tl (by decide +kernel)).trans (lk_hd)
theorem pt_Memory_most {x0 x1 x2 v : V} : putF "most" v (fs_Memory x0 x1 x2) = fs_Memory x0 v x2 := pt_tl (by decide +kernel) (pt_hd)
theorem lk_Memory_cells {x0 x1 x2 : V} : (fs_Memory x0 x1 x2).lookup ("cells" : Str) = some x2 := (lk_tl (by decide +kernel)).trans ((lk_tl (by decide +kernel)).trans (lk_hd))
theorem pt_Memory_cells {x0 x1 x2 v : V} : putF "cells" v (fs_Memory x0 x1 x2) = fs_Memory x0 x1 v := pt_tl (by decide +kernel) (pt_tl (by decide +kernel) (pt_hd))
theorem no_Memory___init__ {x0 x1 x2 : V} : (fs_Memory x0 x1 x2).lookup ("__init__" : Str) = none := (lk_tl (by decide +kernel)).trans ((lk_tl (by decide +kernel)).trans ((lk_tl (by decide +kernel)).trans (rfl)))
theorem no_Memory_size {x0 x1 x2 : V} : (fs_Memory x0 x1 x2).lookup ("size" : Str) = none := (lk_tl (by decide +kernel)).trans ((lk_tl (by decide +kernel)).trans ((lk_tl (by decide +kernel)).trans (rfl)))
theorem no_Memory_read {x0 x1 x2 : V} : (fs_Memory x0 x1 x2).lookup ("read" : Str) = none := (lk_tl (by decide +kernel)).trans ((lk_tl (by decide +kernel)).trans ((lk_tl (by decide +kernel)).trans (rfl)))
theorem no_Memory_write {x0 x1 x2 : V} : (fs_Memory x0 x1 x2).lookup ("write" : Str) = none := (lk_tl (by decide +kernel)).trans ((lk_tl (by decide +kernel)).trans ((lk_tl (by decide +kernel)).trans (rfl)))
theorem in_Memory_0 {x0 x1 x2 : V} : putF "pages" x0 ([] : List (Str × V)) = [(("pages" : Str), x0)] := pt_nl
theorem in_Memory_1 {x0 x1 x2 : V} : putF "most" x1 ([(("pages" : Str), x0)] : List (Str × V)) = [(("pages" : Str), x0), (("most" : Str), x1)] := pt_tl (by decide +kernel) (pt_nl)
theorem in_Memory_2 {x0 x1 x2 : V} : putF "cells" x2 ([(("pages" : Str), x0), (("most" : Str), x1)] : List (Str × V)) = [(("pages" : Str), x0), (("most" : Str), x1), (("cells" : Str), x2)] := pt_tl (by decide +kernel) (pt_tl (by decide +kernel) (pt_nl))
/-! the attributes of an object of Global -/
def fs_Global (x0 x1 x2 : V) : List (Str × V) := [("kind", x0), ("mutable", x1), ("value", x2)]
theorem lk_Global_kind {x0 x1 x2 : V} : (fs_Global x0 x1 x2).lookup ("kind" : Str) = some x0 := lk_hd
theorem pt_Global_kind {x0 x1 x2 v : V} : putF "kind" v (fs_Global x0 x1 x2) = fs_Global v x1 x2 := pt_hd
theorem lk_Global_mutable {x0 x1 x2 : V} : (fs_Global x0 x1 x2).lookup ("mutable" : Str) = some x1 := (lk_tl (by decide +kernel)).trans (lk_hd)
theorem pt_Global_mutable {x0 x1 x2 v : V} : putF "mutable" v (fs_Global x0 x1 x2) = fs_Global x0 v x2 := pt_tl (by decide +kernel) (pt_hd)
theorem lk_Global_value {x0 x1 x2 : V} : (fs_Global x0 x1 x2).lookup ("value" : Str) = some x2 := (lk_tl (by decide +kernel)).trans ((lk_tl (by decide +kernel)).trans (lk_hd))
theorem pt_Global_value {x0 x1 x2 v : V} : putF "value" v (fs_Global x0 x1 x2) = fs_Global x0 x1 v := pt_tl (by decide +kernel) (pt_tl (by decide +kernel) (pt_hd))
theorem no_Global___init__ {x0 x1 x2 : V} : (fs_Global x0 x1 x2).lookup ("__init__" : Str) = none := (lk_tl (by decide +kernel)).trans ((lk_tl (by decide +kernel)).trans ((lk_tl (by decide +kernel)).trans (rfl)))
theorem in_Global_0 {x0 x1 x2 : V} : putF "kind" x0 ([] : List (Str × V)) = [(("kind" : Str), x0)] := pt_nl
theorem in_Global_1 {x0 x1 x2 : V} : putF "mutable" x1 ([(("kind" : Str), x0)] : List (Str × V)) = [(("kind" : Str), x0), (("mutable" : Str), x1)] := pt_tl (by decide +kernel) (pt_nl)
theorem in_Global_2 {x0 x1 x2 : V} : putF "value" x2 ([(("kind" : Str), x0), (("mutable" : Str), x1)] : List (Str × V)) = [(("kind" : Str), x0), (("mutable" : Str), x1), (("value" : Str), x2)] := pt_tl (by decide +kernel) (pt_tl (by decide +kernel) (pt_nl))
/-! the attributes of an object of Store -/
def fs_Store (x0 x1 x2 x3 x4 x5 : V) : List (Str × V) := [("functions", x0), ("tables", x1), ("memories", x2), ("variables", x3), ("tags", x4), ("instances", x5)]
theorem lk_Store_functions {x0 x1 x2 x3 x4 x5 : V} : (fs_Store x0 x1 x2 x3 x4 x5).lookup ("functions" : Str) = some x0 := lk_hd
theorem pt_Store_functions {x0 x1 x2 x3 x4 x5 v : V} : putF "functions" v (fs_Store x0 x1 x2 x3 x4 x5) = fs_Store v x1 x2 x3 x4 x5 := pt_hd
theorem lk_Store_tables {x0 x1 x2 x3 x4 x5 : V} : (fs_Store x0 x1 x2 x3 x4 x5).lookup ("tables" : Str) = some x1 := (lk_tl (by decide +kernel)).trans (lk_hd)
theorem pt_Store_tables {x0 x1 x2 x3 x4 x5 v : V} : putF "tables" v (fs_Store x0 x1 x2 x3 x4 x5) = fs_Store x0 v x2 x3 x4 x5 := pt_tl (by decide +kernel) (pt_hd)
theorem lk_Store_memories {x0 x1 x2 x3 x4 x5 : V} : (fs_Store x0 x1 x2 x3 x4 x5).lookup ("memories" : Str) = some x2 := (lk_tl (by decide +kernel)).trans ((lk_tl (by decide +kernel)).trans (lk_hd))
theorem pt_Store_memories {x0 x1 x2 x3 x4 x5 v : V} : putF "memories" v (fs_Store x0 x1 x2 x3 x4 x5) = fs_Store x0 x1 v x3 x4 x5 := pt_tl (by decide +kernel) (pt_tl (by decide +kernel) (pt_hd))
theorem lk_Store_variables {x0 x1 x2 x3 x4 x5 : V} : (fs_Store x0 x1 x2 x3 x4 x5).lookup ("variables" : Str) = some x3 := (lk_tl (by decide +kernel)).trans ((lk_tl (by decide +kernel)).trans ((lk_tl (by decide +kernel)).trans (lk_hd)))
theorem pt_Store_variables {x0 x1 x2 x3 x4 x5 v : V} : putF "variables" v (fs_Store x0 x1 x2 x3 x4 x5) = fs_Store x0 x1 x2 v x4 x5 := pt_tl (by decide +kernel) (pt_tl (by decide +kernel) (pt_tl (by decide +kernel) (pt_hd)))
theorem lk_Store_tags {x0 x1 x2 x3 x4 x5 : V} : (fs_Store x0 x1 x2 x3 x4 x5).lookup ("tags" : Str) = some x4 := (lk_tl (by decide +kernel)).trans ((lk_tl (by decide +kernel)).trans ((lk_tl (by decide +kernel)).trans ((lk_tl (by decide +kernel)).trans (lk_hd))))
theorem pt_Store_tags {x0 x1 x2 x3 x4 x5 v : V} : putF "tags" v (fs_Store x0 x1 x2 x3 x4 x5) = fs_Store x0 x1 x2 x3 v x5 := pt_tl (by decide +kernel) (pt_tl (by decide +kernel) (pt_tl (by decide +kernel) (pt_tl (by decide +kernel) (pt_hd))))
theorem lk_Store_instances {x0 x1 x2 x3 x4 x5 : V} : (fs_Store x0 x1 x2 x3 x4 x5).lookup ("instances" : Str) = some x5 := (lk_tl (by decide +kernel)).trans ((lk_tl (by decide +kernel)).trans ((lk_tl (by decide +kernel)).trans ((lk_tl (by decide +kernel)).trans ((lk_tl (by decide +kernel)).trans (lk_hd)))))
theorem pt_Store_instances {x0 x1 x2 x3 x4 x5 v : V} : putF "instances" v (fs_Store x0 x1 x2 x3 x4 x5) = fs_Store x0 x1 x2 x3 x4 v := pt_tl (by decide +kernel) (pt_tl (by decide +kernel) (pt_tl (by decide +kernel) (pt_tl (by decide +kernel) (pt_tl (by decide +kernel) (pt_hd)))))
theorem no_Store___init__ {x0 x1 x2 x3 x4 x5 : V} : (fs_Store x0 x1 x2 x3 x4 x5).lookup ("__init__" : Str) = none := (lk_tl (by decide +kernel)).trans ((lk_tl (by decide +kernel)).trans ((lk_tl (by decide +kernel)).trans ((lk_tl (by decide +kernel)).trans ((lk_tl (by decide +kernel)).trans ((lk_tl (by decide +kernel)).trans (rfl))))))
theorem in_Store_0 {x0 x1 x2 x3 x4 x5 : V} : putF "functions" x0 ([] : List (Str × V)) = [(("functions" : Str), x0)] := pt_nl
theorem in_Store_1 {x0 x1 x2 x3 x4 x5 : V} : putF "tables" x1 ([(("functions" : Str), x0)] : List (Str × V)) = [(("functions" : Str), x0), (("tables" : Str), x1)] := pt_tl (by decide +kernel) (pt_nl)
theorem in_Store_2 {x0 x1 x2 x3 x4 x5 : V} : putF "memories" x2 ([(("functions" : Str), x0), (("tables" : Str), x1)] : List (Str × V)) = [(("functions" : Str), x0), (("tables" : Str), x1), (("memories" : Str), x2)] := pt_tl (by decide +kernel) (pt_tl (by decide +kernel) (pt_nl))
theorem in_Store_3 {x0 x1 x2 x3 x4 x5 : V} : putF "variables" x3 ([(("functions" : Str), x0), (("tables" : Str), x1), (("memories" : Str), x2)] : List (Str × V)) = [(("functions" : Str), x0), (("tables" : Str), x1), (("memories" : Str), x2), (("variables" : Str), x3)] := pt_tl (by decide +kernel) (pt_tl (by decide +kernel) (pt_tl (by decide +kernel) (pt_nl)))
theorem in_Store_4 {x0 x1 x2 x3 x4 x5 : V} : putF "tags" x4 ([(("functions" : Str), x0), (("tables" : Str), x1), (("memories" : Str), x2), (("variables" : Str), x3)] : List (Str × V)) = [(("functions" : Str), x0), (("tables" : Str), x1), (("memories" : Str), x2), (("variables" : Str), x3), (("tags" : Str), x4)] := pt_tl (by decide +kernel) (pt_tl (by decide +kernel) (pt_tl (by decide +kernel) (pt_tl (by decide +kernel) (pt_nl))))
theorem in_Store_5 {x0 x1 x2 x3 x4 x5 : V} : putF "instances" x5 ([(("functions" : Str), x0), (("tables" : Str), x1), (("memories" : Str), x2), (("variables" : Str), x3), (("tags" : Str), x4)] : List (Str × V)) = [(("functions" : Str), x0), (("tables" : Str), x1), (("memories" : Str), x2), (("variables" : Str), x3), (("tags" : Str), x4), (("instances" : Str), x5)] := pt_tl (by decide +kernel) (pt_tl (by decide +kernel) (pt_tl (by decide +kernel) (pt_tl (by decide +kernel) (pt_tl (by decide +kernel) (pt_nl)))))
/-! the attributes of an object of Module -/
def fs_Module (x0 x1 x2 x3 x4 x5 x6 x7 x8 x9 x10 : V) : List (Str × V) := [("signatures", x0), ("imports", x1), ("functions", x2), ("tables", x3), ("memories", x4), ("tags", x5), ("variables", x6), ("exports", x7), ("start", x8), ("table_segments", x9), ("memory_segments", x10)]
theorem lk_Module_signatures {x0 x1 x2 x3 x4 x5 x6 x7 x8 x9 x10 : V} : (fs_Module x0 x1 x2 x3 x4 x5 x6 x7 x8 x9 x10).lookup ("signatures" : Str) = some x0 := lk_hd
theorem pt_Module_signatures {x0 x1 x2 x3 x4 x5 x6 x7 x8 x9 x10 v : V} : putF "signatures" v (fs_Module x0 x1 x2 x3 x4 x5 x6 x7 x8 x9 x10) = fs_Module v x1 x2 x3 x4 x5 x6 x7 x8 x9 x10 := pt_hd
theorem lk_Module_imports {x0 x1 x2 x3 x4 x5 x6 x7 x8 x9 x10 : V} : (fs_Module x0 x1 x2 x3 x4 x5 x6 x7 x8 x9 x10).lookup ("imports" : Str) = some x1 := (lk_tl (by decide +kernel)).trans (lk_hd)
theorem pt_Module_imports {x0 x1 x2 x3 x4 x5 x6 x7 x8 x9 x10 v : V} : putF "imports" v (fs_Module x0 x1 x2 x3 x4 x5 x6 x7 x8 x9 x10) = fs_Module x0 v x2 x3 x4 x5 x6 x7 x8 x9 x10 := pt_tl (by decide +kernel) (pt_hd)
theorem lk_Module_functions {x0 x1 x2 x3 x4 x5 x6 x7 x8 x9 x10 : V} : (fs_Module x0 x1 x2 x3 x4 x5 x6 x7 x8 x9 x10).lookup ("functions" : Str) = some x2 := (lk_tl (by decide +kernel)).trans ((lk_tl (by decide +kernel)).trans (lk_hd))
theorem pt_Module_functions {x0 x1 x2 x3 x4 x5 x6 x7 x8 x9 x10 v : V} : putF "functions" v (fs_Module x0 x1 x2 x3 x4 x5 x6 x7 x8 x9 x10) = fs_Module x0 x1 v x3 x4 x5 x6 x7 x8 x9 x10 := pt_tl (by decide +kernel) (pt_tl (by decide +kernel) (pt_hd))
theorem lk_Module_tables {x0 x1 x2 x3 x4 x5 x6 x7 x8 x9 x10 : V} : (fs_Module x0 x1 x2 x3 x4 x5 x6 x7 x8 x9 x10).lookup ("tables" : Str) = some x3 := (lk_tl (by decide +kernel)).trans ((lk_tl (by decide +kernel)).trans ((lk_tl (by decide +kernel)).trans (lk_hd)))
theorem pt_Module_tables {x0 x1 x2 x3 x4 x5 x6 x7 x8 x9 x10 v : V} : putF "tables" v (fs_Module x0 x1 x2 x3 x4 x5 x6 x7 x8 x9 x10) = fs_Module x0 x1 x2 v x4 x5 x6 x7 x8 x9 x10 := pt_tl (by decide +kernel) (pt_tl (by decide +kernel) (pt_tl (by decide +kernel) (pt_hd)))
theorem lk_Module_memories {x0 x1 x2 x3 x4 x5 x6 x7 x8 x9 x10 : V} : (fs_Module x0 x1 x2 x3 x4 x5 x6 x7 x8 x9 x10).lookup ("memories" : Str) = some x4 := (lk_tl (by decide +kernel)).trans ((lk_tl (by decide +kernel)).trans ((lk_tl (by decide +kernel)).trans ((lk_tl (by decide +kernel)).trans (lk_hd))))
theorem pt_Module_memories {x0 x1 x2 x3 x4 x5 x6 x7 x8 x9 x10 v : V} : putF "memories" v (fs_Module x0 x1 x2 x3 x4 x5 x6 x7 x8 x9 x10) = fs_Module x0 x1 x2 x3 v x5 x6 x7 x8 x9 x10 := pt_tl (by decide +kernel) (pt_tl (by decide +kernel) (pt_tl (by decide +kernel) (pt_tl (by decide +kernel) (pt_hd))))
theorem lk_Module_tags {x0 x1 x2 x3 x4 x5 x6 x7 x8 x9 x10 : V} : (fs_Module x0 x1 x2 x3 x4 x5 x6 x7 x8 x9 x10).lookup ("tags" : Str) = some x5 := (lk_tl (by decide +kernel)).trans ((lk_tl (by decide +kernel)).trans ((lk_tl (by decide +kernel)).trans ((lk_tl (by decide +kernel)).trans ((lk_tl (by decide +kernel)).trans (lk_hd)))))
theorem pt_Module_tags {x0 x1 x2 x3 x4 x5 x6 x7 x8 x9 x10 v : V} : putF "tags" v (fs_Module x0 x1 x2 x3 x4 x5 x6 x7 x8 x9 x10) = fs_Module x0 x1 x2 x3 x4 v x6 x7 x8 x9 x10 := pt_tl (by decide +kernel) (pt_tl (by decide +kernel) (pt_tl (by decide +kernel) (pt_tl (by decide +kernel) (pt_tl (by decide +kernel) (pt_hd)))))
theorem lk_Module_variables {x0 x1 x2 x3 x4 x5 x6 x7 x8 x9 x10 : V} : (fs_Module x0 x1 x2 x3 x4 x5 x6 x7 x8 x9 x10).lookup ("variables" : Str) = some x6 := (lk_tl (by decide +kernel)).trans ((lk_tl (by decide +kernel)).trans ((lk_tl (by decide +kernel)).trans ((lk_tl (by decide +kernel)).trans ((lk_tl (by decide +kernel)).trans ((lk_tl (by decide +kernel)).trans (lk_hd))))))
theorem pt_Module_variables {x0 x1 x2 x3 x4 x5 x6 x7 x8 x9 x10 v : V} : putF "variables" v (fs_Module x0 x1 x2 x3 x4 x5 x6 x7 x8 x9 x10) = fs_Module x0 x1 x2 x3 x4 x5 v x7 x8 x9 x10 := pt_tl (by decide +kernel) (pt_tl (by decide +kernel) (pt_tl (by decide +kernel) (pt_tl (by decide +kernel) (pt_tl (by decide +kernel) (pt_tl (by decide +kernel) (pt_hd))))))
theorem lk_Module_exports {x0 x1 x2 x3 x4 x5 x6 x7 x8 x9 x10 : V} : (fs_Module x0 x1 x2 x3 x4 x5 x6 x7 x8 x9 x10).lookup ("exports" : Str) = some x7 := (lk_tl (by decide +kernel)).trans ((lk_tl (by decide +kernel)).trans ((lk_tl (by decide +kernel)).trans ((lk_tl (by decide +kernel)).trans ((lk_tl (by decide +kernel)).trans ((lk_tl (by decide +kernel)).trans ((lk_tl (by decide +kernel)).trans (lk_hd)))))))
theorem pt_Module_exports {x0 x1 x2 x3 x4 x5 x6 x7 x8 x9 x10 v : V} : putF "exports" v (fs_Module x0 x1 x2 x3 x4 x5 x6 x7 x8 x9 x10) = fs_Module x0 x1 x2 x3 x4 x5 x6 v x8 x9 x10 := pt_tl (by decide +kernel) (pt_tl (by decide +kernel) (pt_tl (by decide +kernel) (pt_tl (by decide +kernel) (pt_tl (by decide +kernel) (pt_tl (by decide +kernel) (pt_tl (by decide +kernel) (pt_hd)))))))
theorem lk_Module_start {x0 x1 x2 x3 x4 x5 x6 x7 x8 x9 x10 : V} : (fs_Module x0 x1 x2 x3 x4 x5 x6 x7 x8 x9 x10).lookup ("start" : Str) = some x8 := (lk_tl (by decide +kernel)).trans ((lk_tl (by decide +kernel)).trans ((lk_tl (by decide +kernel)).trans ((lk_tl (by decide +kernel)).trans ((lk_tl (by decide +kernel)).trans ((lk_tl (by decide +kernel)).trans ((lk_tl (by decide +kernel)).trans ((lk_tl (by decide +kernel)).trans (lk_hd))))))))
theorem pt_Module_start {x0 x1 x2 x3 x4 x5 x6 x7 x8 x9 x10 v : V} : putF "start" v (fs_Module x0 x1 x2 x3 x4 x5 x6 x7 x8 x9 x10) = fs_Module x0 x1 x2 x3 x4 x5 x6 x7 v x9 x10 := pt_tl (by decide +kernel) (pt_tl (by decide +kernel) (pt_tl (by decide +kernel) (pt_tl (by decide +kernel) (pt_tl (by decide +kernel) (pt_tl (by decide +kernel) (pt_tl (by decide +kernel) (pt_tl (by decide +kernel) (pt_hd))))))))
theorem lk_Module_table_segments {x0 x1 x2 x3 x4 x5 x6 x7 x8 x9 x10 : V} : (fs_Module x0 x1 x2 x3 x4 x5 x6 x7 x8 x9 x10).lookup ("table_segments" : Str) = some x9 := (lk_tl (by decide +kernel)).trans ((lk_tl (by decide +kernel)).trans ((lk_tl (by decide +kernel)).trans ((lk_tl (by decide +kernel)).trans ((lk_tl (by decide +kernel)).trans ((lk_tl (by decide +kernel)).trans ((lk_tl (by decide +kernel)).trans ((lk_tl (by decide +kernel)).trans ((lk_tl (by decide +kernel)).trans (lk_hd)))))))))
theorem pt_Module_table_segments {x0 x1 x2 x3 x4 x5 x6 x7 x8 x9 x10 v : V} : putF "table_segments" v (fs_Module x0 x1 x2 x3 x4 x5 x6 x7 x8 x9 x10) = fs_Module x0 x1 x2 x3 x4 x5 x6 x7 x8 v x10 := pt_tl (by decide +kernel) (pt_tl (by decide +kernel) (pt_tl (by decide +kernel) (pt_tl (by decide +kernel) (pt_tl (by decide +kernel) (pt_tl (by decide +kernel) (pt_tl (by decide +kernel) (pt_tl (by decide +kernel) (pt_tl (by decide +kernel) (pt_hd)))))))))
theorem lk_Module_memory_segments {x0 x1 x2 x3 x4 x5 x6 x7 x8 x9 x10 : V} : (fs_Module x0 x1 x2 x3 x4 x5 x6 x7 x8 x9 x10).lookup ("memory_segments" : Str) = some x10 := (lk_tl (by decide +kernel)).trans ((lk_tl (by decide +kernel)).trans ((lk_tl (by decide +kernel)).trans ((lk_tl (by decide +kernel)).trans ((lk_tl (by decide +kernel)).trans ((lk_tl (by decide +kernel)).trans ((lk_tl (by decide +kernel)).trans ((lk_tl (by decide +kernel)).trans ((lk_tl (by decide +kernel)).trans ((lk_tl (by decide +kernel)).trans (lk_hd))))))))))
theorem pt_Module_memory_segments {x0 x1 x2 x3 x4 x5 x6 x7 x8 x9 x10 v : V} : putF "memory_segments" v (fs_Module x0 x1 x2 x3 x4 x5 x6 x7 x8 x9 x10) = fs_Module x0 x1 x2 x3 x4 x5 x6 x7 x8 x9 v := pt_tl (by decide +kernel) (pt_tl (by decide +kernel) (pt_tl (by decide +kernel) (pt_tl (by decide +kernel) (pt_tl (by decide +kernel) (pt_tl (by decide +kernel) (pt_tl (by decide +kernel) (pt_tl (by decide +kernel) (pt_tl (by decide +kernel) (pt_tl (by decide +kernel) (pt_hd))))))))))
theorem no_Module___init__ {x0 x1 x2 x3 x4 x5 x6 x7 x8 x9 x10 : V} : (fs_Module x0 x1 x2 x3 x4 x5 x6 x7 x8 x9 x10).lookup ("__init__" : Str) = none := (lk_tl (by decide +kernel)).trans ((lk_tl (by decide +kernel)).trans ((lk_tl (by decide +kernel)).trans ((lk_tl (by decide +kernel)).trans ((lk_tl (by decide +kernel)).trans ((lk_tl (by decide +kernel)).trans ((lk_tl (by decide +kernel)).trans ((lk_tl (by decide +kernel)).trans ((lk_tl (by decide +kernel)).trans ((lk_tl (by decide +kernel)).trans ((lk_tl (by decide +kernel)).trans (rfl)))))))))))
theorem in_Module_0 {x0 x1 x2 x3 x4 x5 x6 x7 x8 x9 x10 : V} : putF "signatures" x0 ([] : List (Str × V)) = [(("signatures" : Str), x0)] := pt_nl
theorem in_Module_1 {x0 x1 x2 x3 x4 x5 x6 x7 x8 x9 x10 : V} : putF "imports" x1 ([(("signatures" : Str), x0)] : List (Str × V)) = [(("signatures" : Str), x0), (("imports" : Str), x1)] := pt_tl (by decide +kernel) (pt_nl)
theorem in_Module_2 {x0 x1 x2 x3 x4 x5 x6 x7 x8 x9 x10 : V} : putF "functions" x2 ([(("signatures" : Str), x0), (("imports" : Str), x1)] : List (Str × V)) = [(("signatures" : Str), x0), (("imports" : Str), x1), (("functions" : Str), x2)] := pt_tl (by decide +kernel) (pt_tl (by decide +kernel) (pt_nl))
theorem in_Module_3 {x0 x1 x2 x3 x4 x5 x6 x7 x8 x9 x10 : V} : putF "tables" x3 ([(("signatures" : Str), x0), (("imports" : Str), x1), (("functions" : Str), x2)] : List (Str × V)) = [(("signatures" : Str), x0), (("imports" : Str), x1), (("functions" : Str), x2), (("tables" : Str), x3)] := pt_tl (by decide +kernel) (pt_tl (by decide +kernel) (pt_tl (by decide +kernel) (pt_nl)))
theorem in_Module_4 {x0 x1 x2 x3 x4 x5 x6 x7 x8 x9 x10 : V} : putF "memories" x4 ([(("signatures" : Str), x0), (("imports" : Str), x1), (("functions" : Str), x2), (("tables" : Str), x3)] : List (Str × V)) = [(("signatures" : Str), x0), (("imports" : Str), x1), (("functions" : Str), x2), (("tables" : Str), x3), (("memories" : Str), x4)] := pt_tl (by decide +kernel) (pt_tl (by decide +kernel) (pt_tl (by decide +kernel) (pt_tl (by decide +kernel) (pt_nl))))
theorem in_Module_5 {x0 x1 x2 x3 x4 x5 x6 x7 x8 x9 x10 : V} : putF "tags" x5 ([(("signatures" : Str), x0), (("imports" : Str), x1), (("functions" : Str), x2), (("tables" : Str), x3), (("memories" : Str), x4)] : List (Str × V)) = [(("signatures" : Str), x0), (("imports" : Str), x1), (("functions" : Str), x2), (("tables" : Str), x3), (("memories" : Str), x4), (("tags" : Str), x5)] := pt_tl (by decide +kernel) (pt_tl (by decide +kernel) (pt_tl (by decide +kernel) (pt_tl (by decide +kernel) (pt_tl (by decide +kernel) (pt_nl)))))
theorem in_Module_6 {x0 x1 x2 x3 x4 x5 x6 x7 x8 x9 x10 : V} : putF "variables" x6 ([(("signatures" : Str), x0), (("imports" : Str), x1), (("functions" : Str), x2), (("tables" : Str), x3), (("memories" : Str), x4), (("tags" : Str), x5)] : List (Str × V)) = [(("signatures" : Str), x0), (("imports" : Str), x1), (("functions" : Str), x2), (("tables" : Str), x3), (("memories" : Str), x4), (("tags" : Str), x5), (("variables" : Str), x6)] := pt_tl (by decide +kernel) (pt_tl (by decide +kernel) (pt_tl (by decide +kernel) (pt_tl (by decide +kernel) (pt_tl (by decide +kernel) (pt_tl (by decide +kernel) (pt_nl))))))
theorem in_Module_7 {x0 x1 x2 x3 x4 x5 x6 x7 x8 x9 x10 : V} : putF "exports" x7 ([(("signatures" : Str), x0), (("imports" : Str), x1), (("functions" : Str), x2), (("tables" : Str), x3), (("memories" : Str), x4), (("tags" : Str), x5), (("variables" : Str), x6)] : List (Str × V)) = [(("signatures" : Str), x0), (("imports" : Str), x1), (("functions" : Str), x2), (("tables" : Str), x3), (("memories" : Str), x4), (("tags" : Str), x5), (("variables" : Str), x6), (("exports" : Str), x7)] := pt_tl (by decide +kernel) (pt_tl (by decide +kernel) (pt_tl (by decide +kernel) (pt_tl (by decide +kernel) (pt_tl (by decide +kernel) (pt_tl (by decide +kernel) (pt_tl (by decide +kernel) (pt_nl)))))))
theorem in_Module_8 {x0 x1 x2 x3 x4 x5 x6 x7 x8 x9 x10 : V} : putF "start" x8 ([(("signatures" : Str), x0), (("imports" : Str), x1), (("functions" : Str), x2), (("tables" : Str), x3), (("memories" : Str), x4), (("tags" : Str), x5), (("variables" : Str), x6), (("exports" : Str), x7)] : List (Str × V)) = [(("signatures" : Str), x0), (("imports" : Str), x1), (("functions" : Str), x2), (("tables" : Str), x3), (("memories" : Str), x4), (("tags" : Str), x5), (("variables" : Str), x6), (("exports" : Str), x7), (("start" : Str), x8)] := pt_tl (by decide +kernel) (pt_tl (by decide +kernel) (pt_tl (by decide +kernel) (pt_tl (by decide +kernel) (pt_tl (by decide +kernel) (pt_tl (by decide +kernel) (pt_tl (by decide +kernel) (pt_tl (by decide +kernel) (pt_nl))))))))
theorem in_Module_9 {x0 x1 x2 x3 x4 x5 x6 x7 x8 x9 x10 : V} : putF "table_segments" x9 ([(("signatures" : Str), x0), (("imports" : Str), x1), (("functions" : Str), x2), (("tables" : Str), x3), (("memories" : Str), x4), (("tags" : Str), x5), (("variables" : Str), x6), (("exports" : Str), x7), (("start" : Str), x8)] : List (Str × V)) = [(("signatures" : Str), x0), (("imports" : Str), x1), (("functions" : Str), x2), (("tables" : Str), x3), (("memories" : Str), x4), (("tags" : Str), x5), (("variables" : Str), x6), (("exports" : Str), x7), (("start" : Str), x8), (("table_segments" : Str), x9)] := pt_tl (by decide +kernel) (pt_tl (by decide +kernel) (pt_tl (by decide +kernel) (pt_tl (by decide +kernel) (pt_tl (by decide +kernel) (pt_tl (by decide +kernel) (pt_tl (by decide +kernel) (pt_tl (by decide +kernel) (pt_tl (by decide +kernel) (pt_nl)))))))))
theorem in_Module_10 {x0 x1 x2 x3 x4 x5 x6 x7 x8 x9 x10 : V} : putF "memory_segments" x10 ([(("signatures" : Str), x0), (("imports" : Str), x1), (("functions" : Str), x2), (("tables" : Str), x3), (("memories" : Str), x4), (("tags" : Str), x5), (("variables" : Str), x6), (("exports" : Str), x7), (("start" : Str), x8), (("table_segments" : Str), x9)] : List (Str × V)) = [(("signatures" : Str), x0), (("imports" : Str), x1), (("functions" : Str), x2), (("tables" : Str), x3), (("memories" : Str), x4), (("tags" : Str), x5), (("variables" : Str), x6), (("exports" : Str), x7), (("start" : Str), x8), (("table_segments" : Str), x9), (("memory_segments" : Str), x10)] := pt_tl (by decide +kernel) (pt_tl (by decide +kernel) (pt_tl (by decide +kernel) (pt_tl (by decide +kernel) (pt_tl (by decide +kernel) (pt_tl (by decide +kernel) (pt_tl (by decide +kernel) (pt_tl (by decide +kernel) (pt_tl (by decide +kernel) (pt_tl (by decide +kernel) (pt_nl))))))))))
def kws_Module (cs : Cs) : List (Str × V) := [("signatures", .ref cs.e_Module_signatures), ("imports", .ref cs.e_Module_imports), ("functions", .ref cs.e_Module_functions), ("tables", .ref cs.e_Module_tables), ("memories", .ref cs.e_Module_memories), ("tags", .ref cs.e_Module_tags), ("variables", .ref cs.e_Module_variables), ("exports", .ref cs.e_Module_exports), ("start", .non), ("table_segments", .ref cs.e_Module_table_segments), ("memory_segments", .ref cs.e_Module_memory_segments)]
def ms_Module (cs : Cs) : List (Str × V) := [("functions", .ref cs.e_Module_functions), ("tables", .ref cs.e_Module_tables), ("memories", .ref cs.e_Module_memories), ("tags", .ref cs.e_Module_tags), ("variables", .ref cs.e_Module_variables), ("exports", .ref cs.e_Module_exports), ("start", .non), ("table_segments", .ref cs.e_Module_table_segments), ("memory_segments", .ref cs.e_Module_memory_segments)]
theorem sub_Module (cs : Cs) : ∀ q ∈ ms_Module cs, q ∈ kws_Module cs := fun q hq => by
  unfold ms_Module at hq
  unfold kws_Module
  simp only [List.mem_cons, List.not_mem_nil, or_false] at hq ⊢
  rcases hq with rfl | rfl | rfl | rfl | rfl | rfl | rfl | rfl | rfl
  all_goals simp
theorem chain_Module {cs : Cs} (D : Addr) (doc pm : Value) (an : Option Addr) (cdv ct : Value) (us mv ws : List Value) (h1 : us.length = 1) (h2 : mv.length = (ms_Module cs).length) (h3 : ws.length = (["signatures", "imports"] : List Str).length) :
    KwChain D (((ms_Module cs).map (·.1)).zip mv) (bindArgs (PySem.W.fnOf "__init__" "Module.__init__" (defArgs s_Module___init__) (defBody s_Module___init__) (defScope s_Module___init__) .none (.ref D) doc pm an cdv ct) ⟨us, (["signatures", "imports"] : List Str).zip ws⟩) ((["self", "signatures", "imports", "functions", "tables", "memories", "tags", "variables", "exports", "start", "table_segments", "memory_segments"] : List Str).zip (us ++ (ws ++ mv))) := by
  match us, mv, ws, h1, h2, h3 with
  | [u0], [m0, m1, m2, m3, m4, m5, m6, m7, m8], [w0, w1], _, _, _ => exact ⟨_, _, _, _, _, _, rfl, rfl, ⟨_, _, _, _, _, _, rfl, rfl, ⟨_, _, _, _, _, _, rfl, rfl, ⟨_, _, _, _, _, _, rfl, rfl, ⟨_, _, _, _, _, _, rfl, rfl, ⟨_, _, _, _, _, _, rfl, rfl, ⟨_, _, _, _, _, _, rfl, rfl, ⟨_, _, _, _, _, _, rfl, rfl, ⟨_, _, _, _, _, _, rfl, rfl, rfl⟩⟩⟩⟩⟩⟩⟩⟩⟩
/-- what the top leaves: built-in names that nothing binds, own classes -/
structure Tp (w : World) (K : PySem.W.Frag) (mg : Str → Option Value) (cs : Cs) : Prop where
  m_bool : mg "bool" = none
  m_enumerate : mg "enumerate" = none
  m_int : mg "int" = none
  m_isinstance : mg "isinstance" = none
  m_len : mg "len" = none
  m_list : mg "list" = none
  m_max : mg "max" = none
  m_range : mg "range" = none
  m_tuple : mg "tuple" = none
  g_HostError : mg "HostError" = some (.ref cs.C_HostError)
  g_ImportMissing : mg "ImportMissing" = some (.ref cs.C_ImportMissing)
  e_ImportMissing : ExK K mg "ImportMissing" cs.C_ImportMissing
  iC_ImportMissing : PySem.W.findIn K (.ref cs.C_ImportMissing) "__init__" = some (some (.ref cs.I_ImportMissing))
  tI_ImportMissing : PySem.W.typeIn K (.ref cs.I_ImportMissing) = some (.type "function")
  F_ImportMissing : L2.Fun K "__init__" "ImportMissing.__init__" i_ImportMissing cs.I_ImportMissing cs.D_ImportMissing
  b_ImportMissing : Binds K cs.D_ImportMissing ["self", "index"] []
  no_ImportMissing_index : PySem.W.findIn K (.ref cs.C_ImportMissing) "index" = some none
  kit_ImportMissing_HostError : PySem.W.kitOne K (.ref cs.C_ImportMissing) (.ref cs.C_HostError) = some true
  exm_ImportMissing_HostError : PySem.W.exmOne K (.ref cs.C_ImportMissing) (.ref cs.C_HostError) = some true
  kit_ImportMissing_ImportMissing : PySem.W.kitOne K (.ref cs.C_ImportMissing) (.ref cs.C_ImportMissing) = some true
  exm_ImportMissing_ImportMissing : PySem.W.exmOne K (.ref cs.C_ImportMissing) (.ref cs.C_ImportMissing) = some true
  kit_ImportMissing_ImportUnfit : PySem.W.kitOne K (.ref cs.C_ImportMissing) (.ref cs.C_ImportUnfit) = some false
  exm_ImportMissing_ImportUnfit : PySem.W.exmOne K (.ref cs.C_ImportMissing) (.ref cs.C_ImportUnfit) = some false
  kit_ImportMissing_LimitReached : PySem.W.kitOne K (.ref cs.C_ImportMissing) (.ref cs.C_LimitReached) = some false
  exm_ImportMissing_LimitReached : PySem.W.exmOne K (.ref cs.C_ImportMissing) (.ref cs.C_LimitReached) = some false
  kit_ImportMissing_VE : PySem.W.kitOne K (.ref cs.C_ImportMissing) (.type "ValueError") = some true
  g_ImportUnfit : mg "ImportUnfit" = some (.ref cs.C_ImportUnfit)
  e_ImportUnfit : ExK K mg "ImportUnfit" cs.C_ImportUnfit
  iC_ImportUnfit : PySem.W.findIn K (.ref cs.C_ImportUnfit) "__init__" = some (some (.ref cs.I_ImportUnfit))
  tI_ImportUnfit : PySem.W.typeIn K (.ref cs.I_ImportUnfit) = some (.type "function")
  F_ImportUnfit : L2.Fun K "__init__" "ImportUnfit.__init__" i_ImportUnfit cs.I_ImportUnfit cs.D_ImportUnfit
  b_ImportUnfit : Binds K cs.D_ImportUnfit ["self", "index"] []
  no_ImportUnfit_index : PySem.W.findIn K (.ref cs.C_ImportUnfit) "index" = some none
  kit_ImportUnfit_HostError : PySem.W.kitOne K (.ref cs.C_ImportUnfit) (.ref cs.C_HostError) = some true
  exm_ImportUnfit_HostError : PySem.W.exmOne K (.ref cs.C_ImportUnfit) (.ref cs.C_HostError) = some true
  kit_ImportUnfit_ImportMissing : PySem.W.kitOne K (.ref cs.C_ImportUnfit) (.ref cs.C_ImportMissing) = some false
  exm_ImportUnfit_ImportMissing : PySem.W.exmOne K (.ref cs.C_ImportUnfit) (.ref cs.C_ImportMissing) = some false
  kit_ImportUnfit_ImportUnfit : PySem.W.kitOne K (.ref cs.C_ImportUnfit) (.ref cs.C_ImportUnfit) = some true
  exm_ImportUnfit_ImportUnfit : PySem.W.exmOne K (.ref cs.C_ImportUnfit) (.ref cs.C_ImportUnfit) = some true
  kit_ImportUnfit_LimitReached : PySem.W.kitOne K (.ref cs.C_ImportUnfit) (.ref cs.C_LimitReached) = some false
  exm_ImportUnfit_LimitReached : PySem.W.exmOne K (.ref cs.C_ImportUnfit) (.ref cs.C_LimitReached) = some false
  kit_ImportUnfit_VE : PySem.W.kitOne K (.ref cs.C_ImportUnfit) (.type "ValueError") = some true
  g_LimitReached : mg "LimitReached" = some (.ref cs.C_LimitReached)
  e_LimitReached : ExK K mg "LimitReached" cs.C_LimitReached
  iC_LimitReached : PySem.W.findIn K (.ref cs.C_LimitReached) "__init__" = some (some (.ref cs.I_LimitReached))
  tI_LimitReached : PySem.W.typeIn K (.ref cs.I_LimitReached) = some (.type "function")
  F_LimitReached : L2.Fun K "__init__" "LimitReached.__init__" i_LimitReached cs.I_LimitReached cs.D_LimitReached
  b_LimitReached : Binds K cs.D_LimitReached ["self", "what"] []
  no_LimitReached_what : PySem.W.findIn K (.ref cs.C_LimitReached) "what" = some none
  kit_LimitReached_HostError : PySem.W.kitOne K (.ref cs.C_LimitReached) (.ref cs.C_HostError) = some true
  exm_LimitReached_HostError : PySem.W.exmOne K (.ref cs.C_LimitReached) (.ref cs.C_HostError) = some true
  kit_LimitReached_ImportMissing : PySem.W.kitOne K (.ref cs.C_LimitReached) (.ref cs.C_ImportMissing) = some false
  exm_LimitReached_ImportMissing : PySem.W.exmOne K (.ref cs.C_LimitReached) (.ref cs.C_ImportMissing) = some false
  kit_LimitReached_ImportUnfit : PySem.W.kitOne K (.ref cs.C_LimitReached) (.ref cs.C_ImportUnfit) = some false
  exm_LimitReached_ImportUnfit : PySem.W.exmOne K (.ref cs.C_LimitReached) (.ref cs.C_ImportUnfit) = some false
  kit_LimitReached_LimitReached : PySem.W.kitOne K (.ref cs.C_LimitReached) (.ref cs.C_LimitReached) = some true
  exm_LimitReached_LimitReached : PySem.W.exmOne K (.ref cs.C_LimitReached) (.ref cs.C_LimitReached) = some true
  kit_LimitReached_VE : PySem.W.kitOne K (.ref cs.C_LimitReached) (.type "ValueError") = some true
  i_MOST_KINDS : ∃ t, mg "MOST_KINDS" = some (.int 16 t)
  i_MOST_HOSTS : ∃ t, mg "MOST_HOSTS" = some (.int 20 t)
  g_Table : mg "Table" = some (.ref cs.C_Table)
  cl_Table : Cls K cs.C_Table
  n_Table_entries : NoAttr K cs.C_Table "entries"
  n_Table_most : NoAttr K cs.C_Table "most"
  g_Memory : mg "Memory" = some (.ref cs.C_Memory)
  cl_Memory : Cls K cs.C_Memory
  n_Memory_pages : NoAttr K cs.C_Memory "pages"
  n_Memory_most : NoAttr K cs.C_Memory "most"
  n_Memory_cells : NoAttr K cs.C_Memory "cells"
  g_Global : mg "Global" = some (.ref cs.C_Global)
  cl_Global : Cls K cs.C_Global
  n_Global_kind : NoAttr K cs.C_Global "kind"
  n_Global_mutable : NoAttr K cs.C_Global "mutable"
  n_Global_value : NoAttr K cs.C_Global "value"
  g_Store : mg "Store" = some (.ref cs.C_Store)
  cl_Store : Cls K cs.C_Store
  n_Store_functions : NoAttr K cs.C_Store "functions"
  n_Store_tables : NoAttr K cs.C_Store "tables"
  n_Store_memories : NoAttr K cs.C_Store "memories"
  n_Store_variables : NoAttr K cs.C_Store "variables"
  n_Store_tags : NoAttr K cs.C_Store "tags"
  n_Store_instances : NoAttr K cs.C_Store "instances"
  g_Module : mg "Module" = some (.ref cs.C_Module)
  cl_Module : Cls K cs.C_Module
  n_Module_signatures : NoAttr K cs.C_Module "signatures"
  n_Module_imports : NoAttr K cs.C_Module "imports"
  n_Module_functions : NoAttr K cs.C_Module "functions"
  n_Module_tables : NoAttr K cs.C_Module "tables"
  n_Module_memories : NoAttr K cs.C_Module "memories"
  n_Module_tags : NoAttr K cs.C_Module "tags"
  n_Module_variables : NoAttr K cs.C_Module "variables"
  n_Module_exports : NoAttr K cs.C_Module "exports"
  n_Module_start : NoAttr K cs.C_Module "start"
  n_Module_table_segments : NoAttr K cs.C_Module "table_segments"
  n_Module_memory_segments : NoAttr K cs.C_Module "memory_segments"
  q_Module_signatures : EmpT K cs.e_Module_signatures
  q_Module_imports : EmpT K cs.e_Module_imports
  q_Module_functions : EmpT K cs.e_Module_functions
  q_Module_tables : EmpT K cs.e_Module_tables
  q_Module_memories : EmpT K cs.e_Module_memories
  q_Module_tags : EmpT K cs.e_Module_tags
  q_Module_variables : EmpT K cs.e_Module_variables
  q_Module_exports : EmpT K cs.e_Module_exports
  q_Module_table_segments : EmpT K cs.e_Module_table_segments
  q_Module_memory_segments : EmpT K cs.e_Module_memory_segments
theorem in_ImportMissing {P : Program} {w : World} {K : PySem.W.Frag} {mg : Str → Option Value} {base : Heap} {cs : Cs} (T : Tp w K mg cs) : FnOk P w K mg base CX0 1 cs.I_ImportMissing cs.D_ImportMissing ["self", "index"] (spI1 K cs.C_ImportMissing "index") :=
  init1 T.F_ImportMissing sci_ImportMissing T.e_ImportMissing.T T.no_ImportMissing_index rfl (.inl rfl) (.inl rfl) (by decide) (by decide)
theorem in_ImportUnfit {P : Program} {w : World} {K : PySem.W.Frag} {mg : Str → Option Value} {base : Heap} {cs : Cs} (T : Tp w K mg cs) : FnOk P w K mg base CX0 1 cs.I_ImportUnfit cs.D_ImportUnfit ["self", "index"] (spI1 K cs.C_ImportUnfit "index") :=
  init1 T.F_ImportUnfit sci_ImportUnfit T.e_ImportUnfit.T T.no_ImportUnfit_index rfl (.inl rfl) (.inl rfl) (by decide) (by decide)
theorem in_LimitReached {P : Program} {w : World} {K : PySem.W.Frag} {mg : Str → Option Value} {base : Heap} {cs : Cs} (T : Tp w K mg cs) : FnOk P w K mg base CX0 1 cs.I_LimitReached cs.D_LimitReached ["self", "what"] (spI1 K cs.C_LimitReached "what") :=
  init1 T.F_LimitReached sci_LimitReached T.e_LimitReached.T T.no_LimitReached_what rfl (.inl rfl) (.inl rfl) (by decide) (by decide)
/-! ### t[::-1] of a tuple; a loop over the turned copy of a list or a tuple -/
theorem rv_adj (n : Nat) : Builtin.Slice.sliceAdjust none none (-1) (n : Int) = ((n : Int) - 1, -1) := by
  unfold Builtin.Slice.sliceAdjust
  rfl
theorem rv_places (n : Nat) : Builtin.Slice.slicePlaces ((n : Int) - 1) (-1) (-1) = n := by
  unfold Builtin.Slice.slicePlaces
  rw [if_neg (by omega)]
  by_cases h : (n : Int) - 1 > -1
  · rw [if_pos h, show (-(-1) : Int) = 1 from rfl, Int.ediv_one]; omega
  · rw [if_neg h]; show 0 = n; omega
theorem fm_congr {α β : Type} {f g : α → Option β} : ∀ {l : List α}, (∀ m ∈ l, f m = g m) → l.filterMap f = l.filterMap g
  | [], _ => rfl
  | a :: r, h => by
    rw [List.filterMap_cons, List.filterMap_cons, h a (List.mem_cons_self ..), fm_congr fun m hm => h m (List.mem_cons_of_mem _ hm)]
theorem rv_pick (xs : Array Value) : ((List.range xs.size).filterMap fun (m : Nat) => xs[((xs.size : Int) - 1 + (m : Int) * (-1)).toNat]?).toArray = xs.toList.reverse.toArray := by
  congr 1
  have e : ∀ m ∈ List.range xs.size, (fun (m : Nat) => xs[((xs.size : Int) - 1 + (m : Int) * (-1)).toNat]?) m = (fun (m : Nat) => xs[xs.size - 1 - m]?) m := by
    intro m hm
    have h := List.mem_range.mp hm
    have : ((xs.size : Int) - 1 + (m : Int) * (-1)).toNat = xs.size - 1 - m := by omega
    show xs[_]? = xs[_]?
    rw [this]
  rw [fm_congr e, ← PySem.W.krv_all, ← List.filterMap_reverse, ← PySem.W.krv_range, List.filterMap_map]
  rfl
section
variable {P : Program} {w : World} {A : Around} {E : Value → Shared → Prop} {s : Shared}
theorem rv_applied {sl : Addr} {u : Tok} {n : Nat} {Q : Int × Int × Nat → Shared → Prop} (hs : s.heap.IsSliceOf sl .none .none (.int (-1) u)) (h : Q ((n : Int) - 1, -1, n) s) :
    wpAny (model P w) A (Builtin.Slice.sliceApplied (.ref sl) (pure (n : Int))) Q E s := by
  obtain ⟨o, ho, hc, hd⟩ := hs
  unfold Builtin.Slice.sliceApplied Builtin.Slice.sliceFields
  refine wpAny_bind (wpAny_bind (wpAny_field ho hd (x := Value.none) rfl (wpAny_bind (wpAny_field ho hd (x := Value.none) rfl (wpAny_bind (wpAny_field ho hd (x := .int (-1) u) rfl (wpAny_pure ?_)))))))
  refine wpAny_bind (HT.slicePart_ (.int (-1) u) ?_)
  show wpAny _ _ (if ((-1 : Int) == 0) = true then _ else _) _ _ s
  rw [if_neg (by decide)]
  refine wpAny_bind (HT.slicePart_ .none (wpAny_bind (HT.slicePart_ .none (wpAny_bind (wpAny_pure ?_)))))
  show wpAny _ _ (match Builtin.Slice.sliceAdjust none none (-1) (n : Int) with | (lo, hi) => pure (lo, (-1 : Int), Builtin.Slice.slicePlaces lo hi (-1))) _ _ s
  rw [rv_adj]
  show wpAny _ _ (pure ((n : Int) - 1, (-1 : Int), Builtin.Slice.slicePlaces ((n : Int) - 1) (-1) (-1))) _ _ s
  rw [rv_places]
  exact wpAny_pure h
theorem rv_getItem {t sl : Addr} {xs : Array Value} {u : Tok} {Q : Value → Shared → Prop} (ht : IsTup s.heap t xs) (hs : s.heap.IsSliceOf sl .none .none (.int (-1) u))
    (h : Q (.ref s.heap.objs.size) { s with heap := s.heap.push { cls := .type "tuple", data := .seq xs.toList.reverse.toArray } }) (hz : xs.size ≤ sizeLine) :
    wpAny (model P w) A (getItem (.ref t) (.ref sl)) Q E s := by
  have hk : sizeOk (.seq xs.toList.reverse.toArray) := by
    show xs.toList.reverse.toArray.size ≤ sizeLine
    rw [List.size_toArray, List.length_reverse, Array.length_toList]
    exact hz
  have hT : s.TypeIs (.ref sl) "slice" := by obtain ⟨o, ho, hc, _⟩ := hs; exact ⟨o, ho, hc⟩
  unfold getItem
  try with_reducible refine wpAny_holding ?_
  try refine wpAny_bind (wpAny_pure ?_)
  refine wpAny_bind (wpAny_sequenceKey ht.typeIs (by decide) ?_)
  refine wpAny_bind (wpAny_callSpecial?_slot (name := Str.ofString "__getitem__") ht.typeIs PyProof.Rows.slot_tuple_getitem
    (wpAny_call_entry PyProof.Rows.slot_tuple_getitem ht.typeIs entry_tuple_getitem ?_ (args_tuple_getitem _ _)))
  show wpAny _ _ (Builtin.Tuple.tupleItemsOf (.ref t) >>= _) _ _ s
  refine wpAny_bind (tupleItemsOf_ ht ?_)
  refine wpAny_bind (wpAny_typeOf hT ?_)
  rw [if_pos (by decide)]
  refine wpAny_bind (rv_applied hs ?_)
  have hn : ¬ (((xs.size : Int) - 1 == 0 && (-1 : Int) == 1 && xs.size == xs.size) = true) := by
    rw [show ((-1 : Int) == 1) = false from rfl, Bool.and_false, Bool.false_and]; decide
  show wpAny _ _ (if ((xs.size : Int) - 1 == 0 && (-1 : Int) == 1 && xs.size == xs.size) = true then _ else _) _ _ s
  rw [if_neg hn, rv_pick]
  first
    | exact wpAny_bind (m := Builtin.Tuple.tupleExact _) (wpAny_newObj_type (wpAny_pure ⟨_, rfl, wpAny_pure h⟩) hk)
    | exact wpAny_bind (m := Builtin.Tuple.tupleExact _) (wpAny_newObj_type (wpAny_bind (wpAny_pure (wpAny_pure ⟨_, rfl, wpAny_pure h⟩))) hk)
    | exact wpAny_bind (wpAny_bind (m := Builtin.Tuple.tupleExact _) (wpAny_newObj_type (wpAny_pure (wpAny_pure ⟨_, rfl, wpAny_pure h⟩)) hk))
    | exact wpAny_bind (wpAny_bind (m := Builtin.Tuple.tupleExact _) (wpAny_newObj_type (wpAny_pure ⟨_, rfl, wpAny_pure h⟩) hk))
end
section
variable {X : Cx}
def tRevT (K : PySem.W.Frag) (te : TE) : TE := fun σ H Q => te σ H fun x H1 => ∃ a xs, x = .ref a ∧ SqT K H1 a xs ∧ ∀ p, H1 p = none → Q (.ref p) (upd H1 p (.tup xs.reverse))
theorem pe_revT {e : Expr} {te : TE} {k : Nat} {p1 p2 p3 pos : Pos} (he : PE X e te) : PE X (.Subscript e (.Slice none none (some (.UnaryOp .USub (.Constant (.int 1) k p1) p2)) p3) pos) (tRevT X.K te) := by
  refine ⟨fun pins s σ H Q I h => Subscript_ (thn (he.run pins s σ H _ I h) fun v s1 ⟨x, H1, I1, r1, q1⟩ => ?_)⟩
  obtain ⟨a, xs, rfl, hx, q⟩ := q1
  cases r1
  have hm : PO X (some (.UnaryOp .USub (.Constant (.int 1) k p1) p2)) (tPart (tUn (rU fun i => .int (-i)) (tC (.int 1)))) := po_some (pe_un un_neg pe_int)
  refine wpAny_Slice (thn (po_none.run pins s1 σ H1 (fun o H2 => o = none ∧ H2 = H1) I1 ⟨rfl, rfl⟩) ?_)
  rintro vl s2 ⟨_, _, I2, pl, rfl, rfl⟩
  refine thn (po_none.run pins s2 σ _ (fun o H3 => o = none ∧ H3 = _) I2 ⟨rfl, rfl⟩) ?_
  rintro vu s3 ⟨_, _, I3, pu, rfl, rfl⟩
  refine thn (hm.run pins s3 σ _ (fun o H4 => o = some (-1) ∧ H4 = _) I3 ⟨1, rfl, -1, rfl, rfl, rfl⟩) ?_
  rintro vs s4 ⟨_, H4, I4, ps, rfl, rfl⟩
  cases pl
  cases pu
  cases ps with
  | int _ u =>
    have I5 : Inv X pins σ H4 { s4 with heap := s4.heap.push { cls := .type "slice", data := .fields #[.none, .none, .int (-1) u] } } := I4.kept (t' := s4.toks) fun b ob z => Heap.get?_push_of_some _ z
    obtain ⟨its, r, ht, hz⟩ := I5.tuple hx
    show wpAny (model X.prog X.w) X.A (subscriptTail e (.Slice none none (some (.UnaryOp .USub (.Constant (.int 1) k p1) p2)) p3) (.ref a) (.ref s4.heap.objs.size)) (EP X pins σ Q) X.xe { s4 with heap := s4.heap.push { cls := .type "slice", data := .fields #[.none, .none, .int (-1) u] } }
    refine tail_any (ops := [.ref a, .ref s4.heap.objs.size]) ht.typeIs (PyProof.Rows.slot_tuple_getitem.lookup) ?_ (by with_unfolding_all rfl)
    refine rv_getItem ht (Heap.IsSliceOf.new _ .none .none (.int (-1) u)) ?_ (by rw [List.size_toArray]; exact r.length ▸ hz)
    exact ⟨.ref _, _, I5.laid (t' := s4.toks) (o := .tup xs.reverse) (fun b ob z => Heap.get?_push_of_some _ z) (Nat.le_refl _) ⟨by rw [List.length_reverse]; exact hz, _, r.reverse, IsTup.new _ _⟩, rfl, q _ (I5.hok.fresh (Nat.le_refl _))⟩
theorem pi_or {tg e : Expr} {u t : TI} (h1 : PI X tg e u) (h2 : PI X tg e t) : PI X tg e (fun σ H R => u σ H R ∨ t σ H R) :=
  ⟨fun pins s σ H R I h => h.elim (h1.run pins s σ H R I) (h2.run pins s σ H R I)⟩
end
theorem for_tupD {K : PySem.W.Frag} {a : Addr} {xs : List V} {g : TG} {tb : TS} {nx : L2.St → Hp → Prop} {rt : VK} {σ : L2.St} {H : Hp} (Pv : Nat → L2.St → Hp → Prop) (h0 : Pv 0 σ H) (hl : ∀ i σ H, i ≤ xs.length → Pv i σ H → SqT K H a xs)
    (hs : ∀ i x σ H, xs[i]? = some x → Pv i σ H → g x σ H fun σ2 H2 => tb { nx := Pv (i + 1), rt := rt, bk := nx, ct := Pv (i + 1) } σ2 H2) (hd : ∀ σ H, Pv xs.length σ H → nx σ H) :
    ∃ W : Nat → Nat → L2.St → Hp → Prop, (∃ m, W 0 m σ H) ∧ ∀ i m σ H, W i m σ H → ((Itt K a).stop i H ∧ nx σ H) ∨ ((Itt K a).go i H ∧ ∃ N : L2.St → Hp → Prop, (∀ σ' H', N σ' H' → ∃ m', m' < m ∧ W (i + 1) m' σ' H') ∧
      ∀ x H', (Itt K a).yld i H x H' → g x σ H' fun σ2 H2 => tb { nx := N, rt := rt, bk := nx, ct := N } σ2 H2) := for_tup (D := { nx := nx, rt := rt }) Pv h0 hl hs hd

/-! ### lists of ints that are the same -/
theorem dp_all {K : PySem.W.Frag} {H : Hp} : ∀ ns : List Int, DpAll K H (ns.map V.int) (ns.map PyData.int)
  | [] => .nil
  | _ :: r => .cons (.int _) (dp_all r)
theorem canlay_ints : ∀ ns : List Int, PyData.canLayAll0 (ns.map PyData.int) = true
  | [] => rfl
  | _ :: r => by
    show PyData.canLayAll0 (PyData.int _ :: r.map PyData.int) = true
    simp only [PyData.canLayAll0, PyData.canLay0, canlay_ints r, Bool.and_self]
theorem depth_ints : ∀ ns : List Int, PyData.depthAll (ns.map PyData.int) ≤ 63
  | [] => by simp [PyData.depthAll]
  | _ :: r => by
    have h := depth_ints r
    simp [PyData.depthAll, PyData.depth] at h ⊢
    exact h
theorem shaped_ints (ns : List Int) : SeqAt.shaped (.list (ns.map PyData.int)) = true := by
  unfold SeqAt.shaped
  rw [Bool.and_eq_true]
  refine ⟨?_, decide_eq_true ?_⟩
  · simp only [PyData.canLay0, canlay_ints]
  · have h := depth_ints ns
    simp only [PyData.depth] at h ⊢
    omega
theorem eqD_same {K : PySem.W.Frag} {H : Hp} {x y : V} {d : PyData} {Q : VK} (h1 : Dp K H x d) (h2 : Dp K H y d) (s : SeqAt.shaped d = true) (q : Q (.bl true) H) : rEqD K x y H Q :=
  ⟨d, d, h1, h2, s, s, by rw [SeqAt.eqv_refl d (SeqAt.canLay_of_shaped s)]; exact q⟩
theorem neD_same {K : PySem.W.Frag} {H : Hp} {x y : V} {d : PyData} {Q : VK} (h1 : Dp K H x d) (h2 : Dp K H y d) (s : SeqAt.shaped d = true) (q : Q (.bl false) H) : rNeD K x y H Q :=
  ⟨d, d, h1, h2, s, s, by rw [SeqAt.eqv_refl d (SeqAt.canLay_of_shaped s)]; exact q⟩
theorem dp_ints {K : PySem.W.Frag} {H : Hp} {a : Addr} {ns : List Int} (h : SqL K H a (ns.map V.int)) : Dp K H (.ref a) (.list (ns.map PyData.int)) := .lst h (dp_all ns)
theorem eqv_ints (ns : List Int) : PyData.eqv (.list (ns.map PyData.int)) (.list (ns.map PyData.int)) = true := SeqAt.eqv_refl _ (SeqAt.canLay_of_shaped (shaped_ints ns))

/-! ### ifs and tests whose answer is known -/
theorem ifNe {x y : Int} {A B : Prop} (e : x = y) (h : B) : if (!decide (V.int x = V.int y)) = true then A else B := by
  subst e
  rw [decide_eq_true rfl]
  exact h
theorem ifNeN {x y : Int} {A B : Prop} (e : ¬ x = y) (h : A) : if (!decide (V.int x = V.int y)) = true then A else B := by
  rw [decide_eq_false (fun z => e (V.int.inj z))]
  exact h
theorem eqT {x y : Int} (e : x = y) : decide (V.int x = V.int y) = true := decide_eq_true (congrArg V.int e)
theorem qT {x y : Int} {Q : VK} {H : Hp} (e : x = y) (h : Q (.bl true) H) : Q (.bl (decide (V.int x = V.int y))) H := by rw [eqT e]; exact h
theorem orV {t u : TE} {σ : L2.St} {H : Hp} {Q : VK} (b1 b2 : Bool) (h1 : ∀ Q, (∀ H', Same H H' → Q (.bl b1) H') → t σ H Q) (h2 : ∀ H' Q, Q (.bl b2) H' → u σ H' Q) (q : ∀ H', Same H H' → Q (.bl (b1 || b2)) H') : tOrV t u σ H Q := by
  refine h1 _ fun H' s => ⟨b1, rfl, ?_⟩
  cases b1 with
  | true => rw [if_pos rfl]; exact q _ s
  | false => rw [if_neg (by decide)]; exact h2 _ _ (q _ s)
theorem andV {t u : TE} {σ : L2.St} {H : Hp} {Q : VK} (b1 b2 : Bool) (h1 : ∀ Q, Q (.bl b1) H → t σ H Q) (h2 : ∀ Q, Q (.bl b2) H → u σ H Q) (q : Q (.bl (b1 && b2)) H) : tAndV t u σ H Q := by
  refine h1 _ ⟨b1, rfl, ?_⟩
  cases b1 with
  | true => rw [if_pos rfl]; exact h2 _ q
  | false => rw [if_neg (by decide)]; exact q
theorem orF {t u : TT} {σ : L2.St} {H : Hp} {Q : Bool → Hp → Prop} (h1 : ∀ Q, (∀ H', Same H H' → Q false H') → t σ H Q) (h2 : ∀ H', Same H H' → ∀ Q, (∀ H'', Same H' H'' → Q false H'') → u σ H' Q) (q : ∀ H', Same H H' → Q false H') : tOr t u σ H Q := by
  refine h1 _ fun H' s => ?_
  rw [if_neg (by decide)]
  exact h2 _ s _ fun H'' s' => q _ (s.trans s')
theorem neF {x y : Int} {Q : Bool → Hp → Prop} {H : Hp} (e : x = y) (h : Q false H) : Q (!decide (V.int x = V.int y)) H := by rw [eqT e]; exact h
theorem ifEq {x y : Int} {A B : Prop} (e : x = y) (h : A) : if decide (V.int x = V.int y) = true then A else B := by rw [eqT e]; exact h
theorem ifEqN {x y : Int} {A B : Prop} (e : ¬ x = y) (h : B) : if decide (V.int x = V.int y) = true then A else B := by
  rw [decide_eq_false (fun z => e (V.int.inj z))]; exact h
theorem ifS {x y : Str} {A B : Prop} (e : x = y) (h : A) : if decide (V.str x = V.str y) = true then A else B := by rw [if_pos (decide_eq_true (congrArg V.str e))]; exact h
theorem ifSN {x y : Str} {A B : Prop} (e : ¬ x = y) (h : B) : if decide (V.str x = V.str y) = true then A else B := by
  rw [if_neg (fun z => e (V.str.inj (of_decide_eq_true z)))]; exact h
theorem ifNeSN {x y : Str} {A B : Prop} (e : ¬ x = y) (h : A) : if (!decide (V.str x = V.str y)) = true then A else B := by
  rw [decide_eq_false (fun z => e (V.str.inj z))]; exact h
theorem ifNeS {x y : Str} {A B : Prop} (e : x = y) (h : B) : if (!decide (V.str x = V.str y)) = true then A else B := by
  subst e
  rw [decide_eq_true rfl]
  exact h
theorem qTS {x y : Str} {Q : VK} {H : Hp} (e : x = y) (h : Q (.bl true) H) : Q (.bl (decide (V.str x = V.str y))) H := by rw [decide_eq_true (congrArg V.str e)]; exact h
theorem call_isiS {X : Cx} {a : Addr} {ps : List (Addr × Obj)} : CallR (X.suite a ps) (.builtin "isinstance") (rIsi X.K) := call_isi
theorem for_tupE {K : PySem.W.Frag} {a : Addr} {xs : List V} {g : TG} {tb : TS} {nx : L2.St → Hp → Prop} {rt : VK} {σ : L2.St} {H : Hp} (Pv : Nat → L2.St → Hp → Prop) (h0 : Pv 0 σ H) (hl : ∀ i σ H, i ≤ xs.length → Pv i σ H → SqT K H a xs)
    (hs : ∀ i x σ H, xs[i]? = some x → Pv i σ H → g x σ H fun σ2 H2 => tb { nx := Pv (i + 1), rt := rt, bk := nx, ct := Pv (i + 1) } σ2 H2) (hd : ∀ σ H, Pv xs.length σ H → nx σ H) :
    ∃ W : Nat → Nat → L2.St → Hp → Prop, (∃ m, W 0 m σ H) ∧ ∀ i m σ H, W i m σ H → ((Itt K a).stop i H ∧ nx σ H) ∨ ((Itt K a).go i H ∧ ∃ N : L2.St → Hp → Prop, (∀ σ' H', N σ' H' → ∃ m', m' < m ∧ W (i + 1) m' σ' H') ∧
      ∀ x H', (Itt K a).yld i H x H' → g x σ H' fun σ2 H2 => tb { nx := N, rt := rt, bk := nx, ct := N } σ2 H2) := for_tup (D := { nx := nx, rt := rt }) Pv h0 hl hs hd
theorem isi_bool {K : PySem.W.Frag} {H : Hp} {b : Bool} {Q : VK} (q : Q (.bl true) H) : rIsi K [.bl b, .ty "bool"] H Q := ⟨.bl b, .ty "bool", _, _, true, rfl, .ty _, .base (.bl _), kit_ty (by decide +kernel), q⟩
theorem ne_of_nd {x y : Int} (h : (!decide (V.int x = V.int y)) = true) : ¬ x = y := fun e => by
  rw [decide_eq_true (congrArg V.int e)] at h; cases h
theorem eq_of_nd {x y : Int} (h : ¬ (!decide (V.int x = V.int y)) = true) : x = y := by
  by_cases e : x = y
  · exact e
  · exact absurd (by rw [decide_eq_false (fun z => e (V.int.inj z))]; rfl) h
theorem eq_of_d {x y : Int} (h : decide (V.int x = V.int y) = true) : x = y := V.int.inj (of_decide_eq_true h)
theorem ne_of_d {x y : Int} (h : ¬ decide (V.int x = V.int y) = true) : ¬ x = y := fun e => h (decide_eq_true (congrArg V.int e))
theorem sign_of (d : Nat) : -1 ≤ ([1, -1] : List Int).getD d 0 ∧ ([1, -1] : List Int).getD d 0 ≤ 1 := by
  match d with
  | 0 => decide
  | 1 => decide
  | _ + 2 => exact (by decide : (-1 : Int) ≤ 0 ∧ (0 : Int) ≤ 1)
section
variable {X : Cx} {s : Shared} {H : Hp} {sc : Scope} {en : Env} {fp : List Addr}
theorem ix_listB : IxR (X.blk s H sc en fp) (L2.rIxL X.K) := ix_list
theorem ix_tupB : IxR (X.blk s H sc en fp) (L2.rIxT X.K) := ix_tup
theorem call_isiB : CallR (X.blk s H sc en fp) (.builtin "isinstance") (rIsi X.K) := call_isi
end
theorem andIf {t : TE} {σ : L2.St} {H : Hp} {Q : VK} {b1 b2 : Bool} (h : ∀ Q', Q' (.bl b2) H → t σ H Q') (q : Q (.bl (b1 && b2)) H) : if b1 = true then t σ H Q else Q (.bl false) H := by
  cases b1 with
  | true => exact h _ q
  | false => exact q
theorem op_eqDS {X : Cx} {a : Addr} {ps : List (Addr × Obj)} (hu : X.A.units + 64 < cLine) : OpR (X.suite a ps) (compareOp .Eq) (rEqD X.K) := op_eqD (X := X.suite a ps) hu
theorem isi_of {K : PySem.W.Frag} {H : Hp} {x : V} {n : String} {t : Value} {b : Bool} {Q : VK} (h : TyX K H x t) (k : PySem.W.kitOne K t (.type n) = some b) (q : Q (.bl b) H) : rIsi K [x, .ty n] H Q := ⟨x, .ty n, t, _, b, rfl, .ty _, h, k, q⟩

/-! ### lists of texts, heaps that grow -/
theorem newE {H H' : Hp} {p : Addr} {xs : List V} {zs : List Str} (h : H p = none) (e : upd H p (.lst xs) = H') (hx : xs = zs.map V.str) : Same H H' ∧ H' p = some (.lst (zs.map V.str)) := by
  subst e hx
  exact ⟨Same.new h, upd_same⟩
theorem at_strs {zs : List Str} {k : Nat} (h : k < zs.length) : ∃ z ∈ zs, atI (zs.map V.str) (k : Int) = some (.str z) :=
  ⟨zs[k], List.getElem_mem h, atI_nat (by rw [List.getElem?_map, List.getElem?_eq_getElem h]; rfl)⟩
theorem none_of {H H' : Hp} {p : Addr} (s : Same H H') (h : H' p = none) : H p = none := by
  cases e : H p with
  | none => rfl
  | some o => rw [s _ _ e] at h; cases h
theorem catE {H : Hp} {l b : Addr} {zs ys : List Str} {Q : VK} (hl : H l = some (.lst (zs.map V.str))) (hb : H b = some (.lst (ys.map V.str))) (hn : zs.length + ys.length ≤ 1000) (q : ∀ p H', Same H H' → H p = none → H' p = some (.lst ((zs ++ ys).map V.str)) → Q (.ref p) H') : rCat (.ref l) (.ref b) H Q :=
  ⟨l, b, _, _, rfl, rfl, hl, hb, by rw [List.length_map, List.length_map]; exact small64 (by omega), fun p hp => q p _ (Same.new hp) hp (by rw [upd_same, List.map_append])⟩
def LstS (H : Hp) (Q : VK) (zs : List Str) : Prop := ∀ p H', Same H H' → H p = none → H' p = some (.lst (zs.map V.str)) → Q (.ref p) H'
theorem lc_mapS {K : PySem.W.Frag} {a : Addr} {zs : List Str} {j : Nat} {te : TE} {σ : L2.St} {H1 : Hp} {D : Addr} {Qd : Hp → Prop} (f : Str → Str) (hD : H1 D = none) (hS : SqL K H1 a (zs.map V.str)) (hn : zs.length ≤ 100000)
    (hs : ∀ z H Q, z ∈ zs → Same H1 H → (∀ H', Same H H' → Q (.str (f z)) H') → te ((σ.set j none).set j (some (.str z))) H Q) (hd : ∀ H, Same H1 H → H D = some (.lst ((zs.map f).map V.str)) → Qd H) :
    ∃ W : Nat → Nat → Hp → Prop, (∃ m, W 0 m (upd H1 D (.lst []))) ∧ ∀ i m H, W i m H →
      ((Itl K a).stop i H ∧ Qd H) ∨ ((Itl K a).go i H ∧ ∃ Nx : Hp → Prop, (∀ H', Nx H' → ∃ m', m' < m ∧ W (i + 1) m' H') ∧ ∀ x H', (Itl K a).yld i H x H' → gName j x (wipe σ [j]) H' fun σ2 H2 => wipe σ2 [j] = wipe σ [j] ∧ tYes σ2 H2 fun b H3 =>
        if b = true then te σ2 H3 fun y H4 => ∃ acc, H4 D = some (.lst acc) ∧ acc.length < sizeLine ∧ Nx (upd H4 D (.lst (acc ++ [y]))) else Nx H3) := by
  refine lc_map (f := fun v => match v with | .str z => .str (f z) | v => v) hD hS (by rw [List.length_map]; exact hn) (fun x H2 Q2 hx s2 q2 => ?_) (fun H2 s2 hD2 => ?_)
  · obtain ⟨z, hz, rfl⟩ := List.mem_map.mp hx
    exact hs z H2 Q2 hz s2 q2
  · refine hd H2 s2 ?_
    rw [hD2, List.map_map, List.map_map]; rfl
theorem flat_strs : ∀ zs : List Str, (zs.map V.str).all flatV = true
  | [] => rfl
  | _ :: r => flat_strs r
theorem inV_mem (z : Str) (zs : List Str) : inV (.str z) (zs.map V.str) = true ↔ z ∈ zs := by
  unfold inV
  rw [List.any_map, List.any_eq_true]
  constructor
  · rintro ⟨y, hy, e⟩
    have e' : (y == z) = true := e
    rw [← eq_of_beq e']; exact hy
  · intro h
    exact ⟨z, h, (beq_self_eq_true z : (z == z) = true)⟩

/-- a name that the module binds to an int -/
theorem pe_gint {X : Cx} {x : Str} {p : Pos} {i : Int} (hg : Gl X x) (hm : ∃ t, X.mg x = some (.int i t)) (hdb : (x == ("__debug__" : Str)) = false := by decide) : PE X (.Name x p) (tC (.int i)) := by
  obtain ⟨t, h⟩ := hm
  exact pe_glob hg h ⟨t, rfl⟩ hdb

/-! ### a loop over zip of two -/
theorem sqT_same {K : PySem.W.Frag} {H H' : Hp} {a : Addr} {xs : List V} (e : Same H H') (h : SqT K H a xs) : SqT K H' a xs := by
  rcases h with (h | ⟨o, h⟩) | h
  · exact .inl (.inl (e _ _ h))
  · exact .inl (.inr ⟨o, e _ _ h⟩)
  · exact .inr h
theorem for_zipD {K : PySem.W.Frag} {a b : Addr} {xs ys : List V} {g : TG} {tb : TS} {nx : L2.St → Hp → Prop} {rt : VK} {σ : L2.St} {H : Hp} (hl : xs.length = ys.length) (Pv : Nat → L2.St → Hp → Prop) (h0 : Pv 0 σ H) (hq : ∀ i σ H, Pv i σ H → SqT K H a xs ∧ SqT K H b ys)
    (hs : ∀ (i : Nat) (x y : V) (T : Addr) (σ : L2.St) (H : Hp), xs[i]? = some x → ys[i]? = some y → Pv i σ H → H T = none → g (.ref T) σ (upd H T (.tup [x, y])) fun σ2 H2 => tb { nx := Pv (i + 1), rt := rt, bk := nx, ct := Pv (i + 1) } σ2 H2) (hd : ∀ σ H, Pv xs.length σ H → nx σ H) :
    ∃ W : Nat → Nat → L2.St → Hp → Prop, (∃ m, W 0 m σ H) ∧ ∀ i m σ H, W i m σ H → ((RZ.ItzT K a b).stop i H ∧ nx σ H) ∨ ((RZ.ItzT K a b).go i H ∧ ∃ N : L2.St → Hp → Prop, (∀ σ' H', N σ' H' → ∃ m', m' < m ∧ W (i + 1) m' σ' H') ∧
      ∀ x H', (RZ.ItzT K a b).yld i H x H' → g x σ H' fun σ2 H2 => tb { nx := N, rt := rt, bk := nx, ct := N } σ2 H2) := RZ.for_zipT (D := { nx := nx, rt := rt }) hl Pv h0 hq hs hd
/-! ### a comprehension over a range, whose items are drawn -/
theorem lc_anyR {n j : Nat} {te : TE} {σ : L2.St} {H1 : Hp} {D : Addr} {Qd : Hp → Prop} (φ : V → Prop) (hD : H1 D = none) (hn : n ≤ 100000)
    (hs : ∀ i H Q, i < n → Same H1 H → (∀ y H', φ y → Same H H' → Q y H') → te ((σ.set j none).set j (some (.int i))) H Q) (hd : ∀ xs H, xs.length = n → (∀ x ∈ xs, φ x) → Same H1 H → H D = some (.lst xs) → Qd H) :
    ∃ W : Nat → Nat → Hp → Prop, (∃ m, W 0 m (upd H1 D (.lst []))) ∧ ∀ i m H, W i m H →
      ((Itr 0 n).stop i H ∧ Qd H) ∨ ((Itr 0 n).go i H ∧ ∃ Nx : Hp → Prop, (∀ H', Nx H' → ∃ m', m' < m ∧ W (i + 1) m' H') ∧ ∀ x H', (Itr 0 n).yld i H x H' → gName j x (wipe σ [j]) H' fun σ2 H2 => wipe σ2 [j] = wipe σ [j] ∧ tYes σ2 H2 fun b H3 =>
        if b = true then te σ2 H3 fun y H4 => ∃ acc, H4 D = some (.lst acc) ∧ acc.length < sizeLine ∧ Nx (upd H4 D (.lst (acc ++ [y]))) else Nx H3) := by
  refine lc_range (fun i H => Same H1 H ∧ ∃ xs : List V, xs.length = i ∧ (∀ x ∈ xs, φ x) ∧ H D = some (.lst xs)) ⟨Same.new hD, [], rfl, (fun _ z => nomatch z), upd_same⟩ (fun i H hi h => ?_) (fun H h => by obtain ⟨s, xs, hl, hx, hk⟩ := h; exact hd xs H hl hx s hk)
  rw [Int.zero_add]
  obtain ⟨s, xs, hl, hx, hk⟩ := h
  refine ⟨?_, ?_⟩
  · show (((σ.set j none).set j (some (V.int i))).set j none) = σ.set j none
    rw [List.set_set, List.set_set]
  · simp only [tYes, if_true]
    refine hs i H _ hi s fun y H' hy s' => ?_
    refine ⟨_, s' _ _ hk, ?_, fun b o e => ?_, xs ++ [y], ?_, fun x hx' => ?_, upd_same⟩
    · exact small64' (by omega)
    · have nb : b ≠ D := fun z => by rw [z, hD] at e; cases e
      rw [upd_ne nb]; exact s' _ _ (s _ _ e)
    · rw [List.length_append, hl]; rfl
    · rcases List.mem_append.mp hx' with z | z
      · exact hx x z
      · rw [List.mem_singleton] at z; rw [z]; exact hy
theorem ints_of {ψ : Int → Prop} : ∀ {xs : List V}, (∀ x ∈ xs, ∃ n, x = .int n ∧ ψ n) → ∃ ns : List Int, xs = ns.map V.int ∧ ∀ n ∈ ns, ψ n
  | [], _ => ⟨[], rfl, fun _ z => nomatch z⟩
  | x :: r, h => by
    obtain ⟨n, rfl, hn⟩ := h x (List.mem_cons_self ..)
    obtain ⟨ns, rfl, hns⟩ := ints_of fun y hy => h y (List.mem_cons_of_mem _ hy)
    refine ⟨n :: ns, rfl, fun m hm => ?_⟩
    rcases List.mem_cons.mp hm with e | hm
    · rw [e]; exact hn
    · exact hns m hm
theorem strs_of {ψ : Str → Prop} : ∀ {xs : List V}, (∀ x ∈ xs, ∃ z, x = .str z ∧ ψ z) → ∃ zs : List Str, xs = zs.map V.str ∧ ∀ z ∈ zs, ψ z
  | [], _ => ⟨[], rfl, fun _ z => nomatch z⟩
  | x :: r, h => by
    obtain ⟨n, rfl, hn⟩ := h x (List.mem_cons_self ..)
    obtain ⟨ns, rfl, hns⟩ := strs_of fun y hy => h y (List.mem_cons_of_mem _ hy)
    refine ⟨n :: ns, rfl, fun m hm => ?_⟩
    rcases List.mem_cons.mp hm with e | hm
    · rw [e]; exact hn
    · exact hns m hm

/-! ### trees of tuples: what stands in them stays -/
/-- every tuple stays -/
def Ti (K : PySem.W.Frag) (H H' : Hp) : Prop := ∀ a xs, SqT K H a xs → SqT K H' a xs
theorem Ti.refl {K : PySem.W.Frag} (H : Hp) : Ti K H H := fun _ _ h => h
theorem Ti.trans {K : PySem.W.Frag} {H H1 H2 : Hp} (a : Ti K H H1) (b : Ti K H1 H2) : Ti K H H2 := fun _ _ h => b _ _ (a _ _ h)
theorem Same.ti {K : PySem.W.Frag} {H H' : Hp} (e : Same H H') : Ti K H H' := fun a xs h => by
  rcases h with (h | ⟨o, h⟩) | h
  · exact .inl (.inl (e _ _ h))
  · exact .inl (.inr ⟨o, e _ _ h⟩)
  · exact .inr h
/-- a thing that is no tuple is put in another's place -/
theorem Ti.put {K : PySem.W.Frag} {H : Hp} {l : Addr} {o o' : HO} (h : H l = some o) (n1 : ∀ xs, o ≠ .tup xs) (n2 : ∀ b xs, o ≠ .frz b (.tup xs)) : Ti K H (upd H l o') := fun a xs q => by
  rcases q with (q | ⟨b, q⟩) | q
  · have : a ≠ l := fun z => by subst z; rw [h] at q; cases q; exact n1 _ rfl
    exact .inl (.inl ((upd_ne this).trans q))
  · have : a ≠ l := fun z => by subst z; rw [h] at q; cases q; exact n2 _ _ rfl
    exact .inl (.inr ⟨b, (upd_ne this).trans q⟩)
  · exact .inr q
theorem Ti.putL {K : PySem.W.Frag} {H : Hp} {l : Addr} {xs : List V} {o' : HO} (h : H l = some (.lst xs)) : Ti K H (upd H l o') := Ti.put h (fun _ z => nomatch z) (fun _ _ z => nomatch z)
theorem Ti.new {K : PySem.W.Frag} {H : Hp} {p : Addr} {o : HO} (h : H p = none) : Ti K H (upd H p o) := Same.ti (Same.new h)
mutual
inductive Dt (K : PySem.W.Frag) (H : Hp) : V → PyData → Prop
  | non : Dt K H .non .none
  | bl (b : Bool) : Dt K H (.bl b) (.bool b)
  | int (i : Int) : Dt K H (.int i) (.int i)
  | str (x : Str) : Dt K H (.str x) (.str x)
  | tup {a : Addr} {xs : List V} {ds : List PyData} : SqT K H a xs → DtA K H xs ds → Dt K H (.ref a) (.tuple ds)
inductive DtA (K : PySem.W.Frag) (H : Hp) : List V → List PyData → Prop
  | nil : DtA K H [] []
  | cons {v : V} {vs : List V} {d : PyData} {ds : List PyData} : Dt K H v d → DtA K H vs ds → DtA K H (v :: vs) (d :: ds)
end
section
variable {K : PySem.W.Frag} {H H' : Hp}
mutual
theorem Dt.ti (e : Ti K H H') : ∀ {v : V} {d : PyData}, Dt K H v d → Dt K H' v d
  | _, _, .non => .non
  | _, _, .bl b => .bl b
  | _, _, .int i => .int i
  | _, _, .str x => .str x
  | _, _, .tup h a => .tup (e _ _ h) (DtA.ti e a)
theorem DtA.ti (e : Ti K H H') : ∀ {vs : List V} {ds : List PyData}, DtA K H vs ds → DtA K H' vs ds
  | _, _, .nil => .nil
  | _, _, .cons h a => .cons (Dt.ti e h) (DtA.ti e a)
end
mutual
theorem Dt.dp : ∀ {v : V} {d : PyData}, Dt K H v d → Dp K H v d
  | _, _, .non => .non
  | _, _, .bl b => .bl b
  | _, _, .int i => .int i
  | _, _, .str x => .str x
  | _, _, .tup h a => .tup h (DtA.dp a)
theorem DtA.dp : ∀ {vs : List V} {ds : List PyData}, DtA K H vs ds → DpAll K H vs ds
  | _, _, .nil => .nil
  | _, _, .cons h a => .cons (Dt.dp h) (DtA.dp a)
end
theorem Dt.same {v : V} {d : PyData} (e : Same H H') (h : Dt K H v d) : Dt K H' v d := h.ti (Same.ti e)
theorem DtA.same {vs : List V} {ds : List PyData} (e : Same H H') (h : DtA K H vs ds) : DtA K H' vs ds := h.ti (Same.ti e)
theorem DtA.len : ∀ {vs : List V} {ds : List PyData}, DtA K H vs ds → vs.length = ds.length
  | _, _, .nil => rfl
  | _, _, .cons _ a => congrArg (· + 1) (DtA.len a)
theorem DtA.get : ∀ {vs : List V} {ds : List PyData} {k : Nat} {d : PyData}, DtA K H vs ds → ds[k]? = some d → ∃ v, vs[k]? = some v ∧ Dt K H v d
  | _, _, k, _, .nil, h => by cases k <;> cases h
  | _, _, 0, _, .cons h _, e => ⟨_, rfl, by cases e; exact h⟩
  | _, _, k + 1, d, .cons _ a, e => DtA.get (k := k) (d := d) a e
theorem DtA.geti : ∀ {vs : List V} {ds : List PyData} {k : Nat} {v : V}, DtA K H vs ds → vs[k]? = some v → ∃ d, ds[k]? = some d ∧ Dt K H v d
  | _, _, k, _, .nil, h => by cases k <;> cases h
  | _, _, 0, _, .cons h _, e => ⟨_, rfl, by cases e; exact h⟩
  | _, _, k + 1, v, .cons _ a, e => DtA.geti (k := k) (v := v) a e
theorem DtA.app : ∀ {vs ws : List V} {ds es : List PyData}, DtA K H vs ds → DtA K H ws es → DtA K H (vs ++ ws) (ds ++ es)
  | _, _, _, _, .nil, b => b
  | _, _, _, _, .cons h a, b => .cons h (DtA.app a b)
theorem DtA.snoc {vs : List V} {v : V} {ds : List PyData} {d : PyData} (a : DtA K H vs ds) (h : Dt K H v d) : DtA K H (vs ++ [v]) (ds ++ [d]) := a.app (.cons h .nil)
theorem DtA.drop : ∀ {vs : List V} {ds : List PyData} (k : Nat), DtA K H vs ds → DtA K H (vs.drop k) (ds.drop k)
  | _, _, 0, a => a
  | _, _, _ + 1, .nil => .nil
  | _, _, k + 1, .cons _ a => DtA.drop k a
theorem DtA.take : ∀ {vs : List V} {ds : List PyData} (k : Nat), DtA K H vs ds → DtA K H (vs.take k) (ds.take k)
  | _, _, 0, _ => .nil
  | _, _, _ + 1, .nil => .nil
  | _, _, k + 1, .cons h a => .cons h (DtA.take k a)
theorem DtA.ints : ∀ ns : List Int, DtA K H (ns.map V.int) (ns.map PyData.int)
  | [] => .nil
  | n :: r => .cons (.int n) (DtA.ints r)
theorem DtA.strs : ∀ zs : List Str, DtA K H (zs.map V.str) (zs.map PyData.str)
  | [] => .nil
  | z :: r => .cons (.str z) (DtA.strs r)
theorem Dt.vint {v : V} {i : Int} (h : Dt K H v (.int i)) : v = .int i := by cases h; rfl
theorem Dt.vstr {v : V} {z : Str} (h : Dt K H v (.str z)) : v = .str z := by cases h; rfl
theorem Dt.vbl {v : V} {b : Bool} (h : Dt K H v (.bool b)) : v = .bl b := by cases h; rfl
theorem Dt.vnon {v : V} (h : Dt K H v .none) : v = .non := by cases h; rfl
theorem DtA.vints : ∀ {vs : List V} {ns : List Int}, DtA K H vs (ns.map PyData.int) → vs = ns.map V.int
  | _, [], .nil => rfl
  | _, n :: r, .cons h a => by rw [h.vint, DtA.vints a]; rfl
theorem Dt.vtup {v : V} {ds : List PyData} (h : Dt K H v (.tuple ds)) : ∃ a xs, v = .ref a ∧ SqT K H a xs ∧ DtA K H xs ds := by
  cases h with
  | tup h a => exact ⟨_, _, rfl, h, a⟩
theorem Dt.two {v : V} {d e : PyData} (h : Dt K H v (.tuple [d, e])) : ∃ a x y, v = .ref a ∧ SqT K H a [x, y] ∧ Dt K H x d ∧ Dt K H y e := by
  obtain ⟨a, xs, rfl, hs, ha⟩ := h.vtup
  cases ha with
  | cons h1 ha =>
  cases ha with
  | cons h2 ha =>
  cases ha
  exact ⟨a, _, _, rfl, hs, h1, h2⟩
theorem Dt.three {v : V} {d e g : PyData} (h : Dt K H v (.tuple [d, e, g])) : ∃ a x y z, v = .ref a ∧ SqT K H a [x, y, z] ∧ Dt K H x d ∧ Dt K H y e ∧ Dt K H z g := by
  obtain ⟨a, xs, rfl, hs, ha⟩ := h.vtup
  cases ha with
  | cons h1 ha =>
  cases ha with
  | cons h2 ha =>
  cases ha with
  | cons h3 ha =>
  cases ha
  exact ⟨a, _, _, _, rfl, hs, h1, h2, h3⟩
theorem Dt.four {v : V} {d e g i : PyData} (h : Dt K H v (.tuple [d, e, g, i])) : ∃ a x y z u, v = .ref a ∧ SqT K H a [x, y, z, u] ∧ Dt K H x d ∧ Dt K H y e ∧ Dt K H z g ∧ Dt K H u i := by
  obtain ⟨a, xs, rfl, hs, ha⟩ := h.vtup
  cases ha with
  | cons h1 ha =>
  cases ha with
  | cons h2 ha =>
  cases ha with
  | cons h3 ha =>
  cases ha with
  | cons h4 ha =>
  cases ha
  exact ⟨a, _, _, _, _, rfl, hs, h1, h2, h3, h4⟩
theorem newT {xs : List V} {ds : List PyData} {p : Addr} {H' : Hp} (hp : H p = none) (e : upd H p (.tup xs) = H') (a : DtA K H xs ds) : Same H H' ∧ Dt K H' (.ref p) (.tuple ds) := by
  subst e; exact ⟨Same.new hp, .tup (SqT.of upd_same) (a.same (Same.new hp))⟩
/-! readings over such trees -/
theorem ix_D {Q : VK} {x : V} {ds : List PyData} {k : Nat} {d : PyData} (h : Dt K H x (.tuple ds)) (e : ds[k]? = some d) (q : ∀ v, Dt K H v d → Q v H) : rIxT K x (.int (k : Int)) H Q := by
  obtain ⟨a, xs, rfl, hs, ha⟩ := h.vtup
  obtain ⟨v, ev, hv⟩ := ha.get e
  exact ⟨_, _, _, _, rfl, rfl, hs, atI_nat ev, q v hv⟩
theorem ix_Dl {Q : VK} {a : Addr} {xs : List V} {ds : List PyData} {k : Nat} {d : PyData} (hs : SqL K H a xs) (h : DtA K H xs ds) (e : ds[k]? = some d) (q : ∀ v, Dt K H v d → Q v H) : rIxL K (.ref a) (.int (k : Int)) H Q := by
  obtain ⟨v, ev, hv⟩ := h.get e
  exact ⟨_, _, _, _, rfl, rfl, hs, atI_nat ev, q v hv⟩
theorem tup_D {Q : VK} {xs : List V} {ds : List PyData} (h : DtA K H xs ds) (hl : xs.length ≤ 1000000) (q : ∀ p H', Same H H' → Dt K H' (.ref p) (.tuple ds) → Q (.ref p) H') : xs.length ≤ sizeLine ∧ ∀ p, H p = none → Q (.ref p) (upd H p (.tup xs)) :=
  ⟨small64 hl, fun p hp => q p _ (Same.new hp) (.tup (SqT.of upd_same) (h.same (Same.new hp)))⟩
theorem eq_D {Q : VK} {x y : V} {d e : PyData} (h1 : Dt K H x d) (h2 : Dt K H y e) (s1 : SeqAt.shaped d = true) (s2 : SeqAt.shaped e = true) (q : Q (.bl (PyData.eqv d e)) H) : rEqD K x y H Q := ⟨_, _, h1.dp, h2.dp, s1, s2, q⟩
theorem ne_D {Q : VK} {x y : V} {d e : PyData} (h1 : Dt K H x d) (h2 : Dt K H y e) (s1 : SeqAt.shaped d = true) (s2 : SeqAt.shaped e = true) (q : Q (.bl (!PyData.eqv d e)) H) : rNeD K x y H Q := ⟨_, _, h1.dp, h2.dp, s1, s2, q⟩
theorem cat_D {Q : VK} {x y : V} {ds es : List PyData} (h1 : Dt K H x (.tuple ds)) (h2 : Dt K H y (.tuple es)) (n : ds ≠ []) (hl : ds.length + es.length ≤ 1000000) (q : ∀ p H', Same H H' → Dt K H' (.ref p) (.tuple (ds ++ es)) → Q (.ref p) H') : rCatT K x y H Q := by
  obtain ⟨a, xs, rfl, hs, ha⟩ := h1.vtup
  obtain ⟨b, ys, rfl, ht, hb⟩ := h2.vtup
  have l1 := ha.len
  have l2 := hb.len
  have hn : xs ≠ [] := fun z => by subst z; cases ds with
    | nil => exact n rfl
    | cons _ _ => cases l1
  refine ⟨a, b, xs, ys, rfl, rfl, hs, ht, hn, small64 (by omega), fun e => ?_, fun _ p hp => q p _ (Same.new hp) (.tup (SqT.of upd_same) ((ha.app hb).same (Same.new hp)))⟩
  subst e
  have e2 : es = [] := by cases es with
    | nil => rfl
    | cons _ _ => cases l2
  subst e2
  exact q a H (Same.refl H) (by rw [List.append_nil]; exact .tup hs ha)
theorem sl_fromD {Q : VK} {x : V} {ds : List PyData} {k : Nat} (h : Dt K H x (.tuple ds)) (hk : 0 < k) (hd : 0 < ds.length) (q : ∀ p H', Same H H' → Dt K H' (.ref p) (.tuple (ds.drop k)) → Q (.ref p) H') : rSlT K x (some (k : Int)) none H Q := by
  obtain ⟨a, xs, rfl, hs, ha⟩ := h.vtup
  have l := ha.len
  refine ⟨a, xs, rfl, hs, fun z => ?_, fun p hp => ?_⟩
  · have := z.1
    rw [HT.sIx_nat] at this
    omega
  · rw [cut_from]
    exact q p _ (Same.new hp) (.tup (SqT.of upd_same) ((ha.drop k).same (Same.new hp)))
theorem sl_toD {Q : VK} {x : V} {ds : List PyData} {k : Nat} (h : Dt K H x (.tuple ds)) (hk : k < ds.length) (q : ∀ p H', Same H H' → Dt K H' (.ref p) (.tuple (ds.take k)) → Q (.ref p) H') : rSlT K x none (some (k : Int)) H Q := by
  obtain ⟨a, xs, rfl, hs, ha⟩ := h.vtup
  have l := ha.len
  refine ⟨a, xs, rfl, hs, fun z => ?_, fun p hp => ?_⟩
  · have := z.2
    rw [HT.sIx_nat] at this
    omega
  · rw [cut_to]
    exact q p _ (Same.new hp) (.tup (SqT.of upd_same) ((ha.take k).same (Same.new hp)))
end

/-! ### comprehensions that make trees -/
section
variable {K : PySem.W.Frag} {j : Nat} {tt : TT} {te : TE} {σ : L2.St} {H1 : Hp} {D : Addr} {Qd : Hp → Prop}
/-- where such a comprehension stands -/
def LcP (K : PySem.W.Frag) (H1 : Hp) (D : Addr) (out : Nat → List PyData) (i : Nat) (H : Hp) : Prop := Same H1 H ∧ ∃ ys, H D = some (.lst ys) ∧ DtA K H ys (out i) ∧ ys.length ≤ i
theorem LcP.put {out : Nat → List PyData} {i : Nat} {H H4 : Hp} {y : V} {d : PyData} (hD : H1 D = none) (hi : i ≤ 100000) (p : LcP K H1 D out i H) (s : Same H H4) (h : Dt K H4 y d) (e : out (i + 1) = out i ++ [d]) :
    ∃ acc, H4 D = some (.lst acc) ∧ acc.length < sizeLine ∧ LcP K H1 D out (i + 1) (upd H4 D (.lst (acc ++ [y]))) := by
  obtain ⟨s1, ys, k, a, l⟩ := p
  have k4 := s _ _ k
  have t := Ti.putL (K := K) (o' := .lst (ys ++ [y])) k4
  refine ⟨ys, k4, small64' (by omega), fun b o q => ?_, ys ++ [y], upd_same, ?_, by rw [List.length_append]; exact Nat.add_le_add l (Nat.le_refl _)⟩
  · have nb : b ≠ D := fun z => by rw [z, hD] at q; cases q
    rw [upd_ne nb]; exact s _ _ (s1 _ _ q)
  · rw [e]
    exact ((a.same s).ti t).snoc (h.ti t)
theorem LcP.mov {out : Nat → List PyData} {i : Nat} {H H4 : Hp} (p : LcP K H1 D out i H) (s : Same H H4) (e : out (i + 1) = out i) : LcP K H1 D out (i + 1) H4 := by
  obtain ⟨s1, ys, k, a, l⟩ := p
  exact ⟨s1.trans s, ys, s _ _ k, by rw [e]; exact a.same s, by omega⟩
theorem LcP.zero {out : Nat → List PyData} (hD : H1 D = none) (h0 : out 0 = []) : LcP K H1 D out 0 (upd H1 D (.lst [])) := ⟨Same.new hD, [], upd_same, by rw [h0]; exact .nil, Nat.le_refl _⟩
/-- a turn of such a comprehension -/
def LcTurn (K : PySem.W.Frag) (tt : TT) (te : TE) (σ : L2.St) (j : Nat) (out : Nat → List PyData) (i : Nat) (x : V) (H : Hp) : Prop :=
  ∀ (Y : VK) (N : Hp → Prop), (∀ y H' d, Same H H' → Dt K H' y d → out (i + 1) = out i ++ [d] → Y y H') → (∀ H', Same H H' → out (i + 1) = out i → N H') →
    tt ((σ.set j none).set j (some x)) H fun b H3 => if b = true then te ((σ.set j none).set j (some x)) H3 Y else N H3
theorem lcD_list {a : Addr} {xs : List V} (out : Nat → List PyData) (hD : H1 D = none) (hS : SqL K H1 a xs) (hn : xs.length ≤ 100000) (h0 : out 0 = []) (hs : ∀ i x H, xs[i]? = some x → Same H1 H → LcTurn K tt te σ j out i x H)
    (hd : ∀ H ys, Same H1 H → H D = some (.lst ys) → DtA K H ys (out xs.length) → ys.length ≤ xs.length → Qd H) :
    ∃ W : Nat → Nat → Hp → Prop, (∃ m, W 0 m (upd H1 D (.lst []))) ∧ ∀ i m H, W i m H →
      ((Itl K a).stop i H ∧ Qd H) ∨ ((Itl K a).go i H ∧ ∃ Nx : Hp → Prop, (∀ H', Nx H' → ∃ m', m' < m ∧ W (i + 1) m' H') ∧ ∀ x H', (Itl K a).yld i H x H' → gName j x (wipe σ [j]) H' fun σ2 H2 => wipe σ2 [j] = wipe σ [j] ∧ tt σ2 H2 fun b H3 =>
        if b = true then te σ2 H3 fun y H4 => ∃ acc, H4 D = some (.lst acc) ∧ acc.length < sizeLine ∧ Nx (upd H4 D (.lst (acc ++ [y]))) else Nx H3) := by
  refine lc_list (xs := xs) (LcP K H1 D out) (LcP.zero hD h0) (fun i H _ h => h.1.seq hS) (fun i x H hx h => ?_) (fun H h => by obtain ⟨s, ys, k, a, l⟩ := h; exact hd H ys s k a l)
  have hi : i < xs.length := (List.getElem?_eq_some_iff.mp hx).1
  refine ⟨by show (((σ.set j none).set j (some x)).set j none) = σ.set j none; rw [List.set_set, List.set_set], ?_⟩
  exact hs i x H hx h.1 _ _ (fun y H' d s h' e => h.put hD (by omega) s h' e) (fun H' s e => h.mov s e)
theorem lcD_tup {a : Addr} {xs : List V} (out : Nat → List PyData) (hD : H1 D = none) (hS : SqT K H1 a xs) (hn : xs.length ≤ 100000) (h0 : out 0 = []) (hs : ∀ i x H, xs[i]? = some x → Same H1 H → LcTurn K tt te σ j out i x H)
    (hd : ∀ H ys, Same H1 H → H D = some (.lst ys) → DtA K H ys (out xs.length) → ys.length ≤ xs.length → Qd H) :
    ∃ W : Nat → Nat → Hp → Prop, (∃ m, W 0 m (upd H1 D (.lst []))) ∧ ∀ i m H, W i m H →
      ((Itt K a).stop i H ∧ Qd H) ∨ ((Itt K a).go i H ∧ ∃ Nx : Hp → Prop, (∀ H', Nx H' → ∃ m', m' < m ∧ W (i + 1) m' H') ∧ ∀ x H', (Itt K a).yld i H x H' → gName j x (wipe σ [j]) H' fun σ2 H2 => wipe σ2 [j] = wipe σ [j] ∧ tt σ2 H2 fun b H3 =>
        if b = true then te σ2 H3 fun y H4 => ∃ acc, H4 D = some (.lst acc) ∧ acc.length < sizeLine ∧ Nx (upd H4 D (.lst (acc ++ [y]))) else Nx H3) := by
  refine lc_tup (xs := xs) (LcP K H1 D out) (LcP.zero hD h0) (fun i H _ h => Same.ti h.1 _ _ hS) (fun i x H hx h => ?_) (fun H h => by obtain ⟨s, ys, k, a, l⟩ := h; exact hd H ys s k a l)
  have hi : i < xs.length := (List.getElem?_eq_some_iff.mp hx).1
  refine ⟨by show (((σ.set j none).set j (some x)).set j none) = σ.set j none; rw [List.set_set, List.set_set], ?_⟩
  exact hs i x H hx h.1 _ _ (fun y H' d s h' e => h.put hD (by omega) s h' e) (fun H' s e => h.mov s e)
theorem lcD_range {n : Nat} (out : Nat → List PyData) (hD : H1 D = none) (hn : n ≤ 100000) (h0 : out 0 = []) (hs : ∀ i H, i < n → Same H1 H → LcTurn K tt te σ j out i (.int (i : Int)) H)
    (hd : ∀ H ys, Same H1 H → H D = some (.lst ys) → DtA K H ys (out n) → ys.length ≤ n → Qd H) :
    ∃ W : Nat → Nat → Hp → Prop, (∃ m, W 0 m (upd H1 D (.lst []))) ∧ ∀ i m H, W i m H →
      ((Itr 0 n).stop i H ∧ Qd H) ∨ ((Itr 0 n).go i H ∧ ∃ Nx : Hp → Prop, (∀ H', Nx H' → ∃ m', m' < m ∧ W (i + 1) m' H') ∧ ∀ x H', (Itr 0 n).yld i H x H' → gName j x (wipe σ [j]) H' fun σ2 H2 => wipe σ2 [j] = wipe σ [j] ∧ tt σ2 H2 fun b H3 =>
        if b = true then te σ2 H3 fun y H4 => ∃ acc, H4 D = some (.lst acc) ∧ acc.length < sizeLine ∧ Nx (upd H4 D (.lst (acc ++ [y]))) else Nx H3) := by
  refine lc_range (LcP K H1 D out) (LcP.zero hD h0) (fun i H hi h => ?_) (fun H h => by obtain ⟨s, ys, k, a, l⟩ := h; exact hd H ys s k a l)
  rw [Int.zero_add]
  refine ⟨by show (((σ.set j none).set j (some (V.int i))).set j none) = σ.set j none; rw [List.set_set, List.set_set], ?_⟩
  exact hs i H hi h.1 _ _ (fun y H' d s h' e => h.put hD (by omega) s h' e) (fun H' s e => h.mov s e)
/-- over a range, whose items are made of things with a property -/
theorem lcX_range {α : Type} {n : Nat} (f : α → PyData) (p : α → Prop) (hD : H1 D = none) (hn : n ≤ 100000)
    (hs : ∀ (i : Nat) (H : Hp) (Y : VK), i < n → Same H1 H → (∀ (y : V) (H' : Hp) (a : α), Same H H' → Dt K H' y (f a) → p a → Y y H') → te ((σ.set j none).set j (some (.int (i : Int)))) H Y)
    (hd : ∀ (H : Hp) (ys : List V) (al : List α), Same H1 H → H D = some (.lst ys) → DtA K H ys (al.map f) → (∀ a ∈ al, p a) → al.length = n → Qd H) :
    ∃ W : Nat → Nat → Hp → Prop, (∃ m, W 0 m (upd H1 D (.lst []))) ∧ ∀ i m H, W i m H →
      ((Itr 0 n).stop i H ∧ Qd H) ∨ ((Itr 0 n).go i H ∧ ∃ Nx : Hp → Prop, (∀ H', Nx H' → ∃ m', m' < m ∧ W (i + 1) m' H') ∧ ∀ x H', (Itr 0 n).yld i H x H' → gName j x (wipe σ [j]) H' fun σ2 H2 => wipe σ2 [j] = wipe σ [j] ∧ tYes σ2 H2 fun b H3 =>
        if b = true then te σ2 H3 fun y H4 => ∃ acc, H4 D = some (.lst acc) ∧ acc.length < sizeLine ∧ Nx (upd H4 D (.lst (acc ++ [y]))) else Nx H3) := by
  refine lc_range (fun i H => Same H1 H ∧ ∃ (ys : List V) (al : List α), H D = some (.lst ys) ∧ DtA K H ys (al.map f) ∧ (∀ a ∈ al, p a) ∧ al.length = i) ⟨Same.new hD, [], [], upd_same, .nil, (fun _ z => nomatch z), rfl⟩ (fun i H hi h => ?_)
    (fun H h => by obtain ⟨s, ys, al, k, a, hp, l⟩ := h; exact hd H ys al s k a hp l)
  rw [Int.zero_add]
  obtain ⟨s1, ys, al, k, a, hp, l⟩ := h
  refine ⟨by show (((σ.set j none).set j (some (V.int i))).set j none) = σ.set j none; rw [List.set_set, List.set_set], ?_⟩
  simp only [tYes, if_true]
  refine hs i H _ hi s1 fun y H' a0 s h' hp0 => ?_
  have k4 := s _ _ k
  have t := Ti.putL (K := K) (o' := .lst (ys ++ [y])) k4
  have ly := a.len
  rw [List.length_map] at ly
  refine ⟨ys, k4, small64' (by omega), fun b o e => ?_, ys ++ [y], al ++ [a0], upd_same, ?_, fun z hz => ?_, by rw [List.length_append, l]; rfl⟩
  · have nb : b ≠ D := fun z => by rw [z, hD] at e; cases e
    rw [upd_ne nb]; exact s _ _ (s1 _ _ e)
  · rw [List.map_append]
    exact ((a.same s).ti t).snoc (h'.ti t)
  · rcases List.mem_append.mp hz with z1 | z1
    · exact hp z z1
    · rw [List.mem_singleton] at z1; rw [z1]; exact hp0
/-- all items, in the places of a list of data -/
theorem take_snoc {α : Type} {xs : List α} {i : Nat} {x : α} (h : xs[i]? = some x) : xs.take (i + 1) = xs.take i ++ [x] := by rw [List.take_add_one, h]; rfl
theorem map_take_snoc {α β : Type} {xs : List α} {i : Nat} {x : α} (f : α → β) (h : xs[i]? = some x) : (xs.take (i + 1)).map f = (xs.take i).map f ++ [f x] := by rw [take_snoc h, List.map_append]; rfl
theorem filt_take_yes {α β : Type} {xs : List α} {i : Nat} {x : α} (p : α → Bool) (f : α → β) (h : xs[i]? = some x) (hp : p x = true) : ((xs.take (i + 1)).filter p).map f = ((xs.take i).filter p).map f ++ [f x] := by
  rw [take_snoc h, List.filter_append, List.filter_cons_of_pos hp, List.map_append]; rfl
theorem filt_take_no {α β : Type} {xs : List α} {i : Nat} {x : α} (p : α → Bool) (f : α → β) (h : xs[i]? = some x) (hp : p x = false) : ((xs.take (i + 1)).filter p).map f = ((xs.take i).filter p).map f := by
  rw [take_snoc h, List.filter_append, List.filter_cons_of_neg (by rw [hp]; decide)]; simp
end

section
variable {X : Cx} {s : Shared} {H : Hp} {sc : Scope} {en : Env} {fp : List Addr}
theorem sl_tupB : SlR (X.blk s H sc en fp) (rSlT X.K) := sl_tup
theorem pi_listT {tg iter : Expr} {te : TE} {pn : List (Addr × Obj)} {xe : Value → Shared → Prop} (he : PE (X.tr pn xe) iter te) : PI (X.tr pn xe) tg iter (iList X.K te) := pi_list he
theorem ix_tupTr {pn : List (Addr × Obj)} {xe : Value → Shared → Prop} : IxR (X.tr pn xe) (L2.rIxT X.K) := ix_tup
theorem ix_listTr {pn : List (Addr × Obj)} {xe : Value → Shared → Prop} : IxR (X.tr pn xe) (L2.rIxL X.K) := ix_list
theorem sl_tupBT {pn : List (Addr × Obj)} {xe : Value → Shared → Prop} : SlR ((X.tr pn xe).blk s H sc en fp) (rSlT X.K) := sl_tup
theorem op_catTB : OpR (X.blk s H sc en fp) (binaryOp .Add) (rCatT X.K) := op_catT
theorem op_neDB (hu : X.A.units + 64 < cLine) : OpR (X.blk s H sc en fp) (compareOp .NotEq) (rNeD X.K) := op_neD (X := X.blk s H sc en fp) hu
theorem op_eqDB (hu : X.A.units + 64 < cLine) : OpR (X.blk s H sc en fp) (compareOp .Eq) (rEqD X.K) := op_eqD (X := X.blk s H sc en fp) hu
end

/-! ### a try with several clauses 'except C as e' -/
/-- the clauses' wishes, the first one that fits counts -/
def wAsM (K : PySem.W.Frag) (Wo : WX) (D : Ends) : List (Value × Nat × (Addr → Value → Option Addr → TS)) → WX
  | [] => Wo
  | q :: r => wAs K q.1 q.2.1 q.2.2 (wAsM K Wo D r) D
inductive ClsA (X : Cx) : List ExceptHandler → List (Value × Nat × (Addr → Value → Option Addr → TS)) → Prop
  | nil : ClsA X [] []
  | cons {x n : Str} {c : Value} {i : Nat} {ts : Addr → Value → Option Addr → TS} {b0 : Stmt} {bs : List Stmt} {p1 p2 : Pos} {hr : List ExceptHandler} {lr : List (Value × Nat × (Addr → Value → Option Addr → TS))}
      (hi : X.N[i]? = some n) (hl : X.env.kindOf n = some .local) (hc : Names X x c)
      (hb : ∀ (a : Addr) (oe : Obj) (cls : Value) (d : Option Addr) (pn : List (Addr × Obj)), Zc cls d oe → (∃ vs, oe.data = .fields vs) → PSs (X.suite a ((a, oe) :: pn)) (b0 :: bs) (ts a cls d))
      (r : ClsA X hr lr) : ClsA X (.ExceptHandler (some (.Name x p1)) (some n) (b0 :: bs) p2 :: hr) ((c, i, ts) :: lr)
section
variable {X : Cx} {body : List Stmt} {hh : ExceptHandler} {hr : List ExceptHandler} {l : List (Value × Nat × (Addr → Value → Option Addr → TS))} {pp : Pos} {tb : WX → TS} {Wo : WX}
theorem ps_try_asM (h1 : X.stack = X.env :: X.outer) (h2 : X.env.frame = some X.env.locals) (h3 : X.N.Nodup) (tk : Takes X Wo)
    (h4 : ∀ (W : WX) (pn : List (Addr × Obj)) (xe : Value → Shared → Prop), Takes (X.tr pn xe) W → PassesOwn (model X.prog X.w) X.A X.env xe → PSs (X.tr pn xe) body (tb W))
    (hk : ClsA X (hh :: hr) l) : PS X (.Try body (hh :: hr) [] [] pp) (fun D σ H => tb (wAsM X.K Wo D l) D σ H) := by
  refine ⟨fun ps0 s σ H D I h => ?_⟩
  have ok := I.ok
  have g0 : X.A.frames = some (X.env :: X.outer) := ok.frames.trans (congrArg some h1)
  let M := model X.prog X.w
  let XE : Value → Shared → Prop := fun e z => wpAny M X.A (noteFrame e X.env) (fun _ y => wpAny M X.A (setFlight e none) (fun _ t => wpAny M X.A (handleBy e X.env (hh :: hr)) (SP X ps0 D) X.xe t) X.xe y) X.xe z
  have T0 : Takes (X.tr (X.pn ++ ps0) XE) (wAsM X.K Wo D l) := by
    intro u s' xx
    obtain ⟨a, B, sI, ps1, τ, G, cls, d, rfl, J0, nb, up, sk, na, os, ag, w⟩ := xx
    have J : Inv X ps0 τ G sI := J0.ofTry ok
    have sk1 : Sky B (X.env :: X.outer) a (Zc cls d) X.env.locals s'.heap := h1 ▸ sk
    refine Sky.land (E₁ := X.xe) Zc.steady g0 h2 sk1 fun k3 f3 u3 => ?_
    have J3 : Inv X ps0 τ G { s' with heap := k3 } := J.landed nb f3.1 (up.trans u3) os ag
    obtain ⟨o3, v3, e3, z3, d3⟩ := f3.there
    have nfr : a ∉ frs (X.env :: X.outer) := fun hm => by
      obtain ⟨_, o', e', no⟩ := f3.2.2.1.mem hm
      rw [e3] at e'; cases e'; exact no _ d3
    have nL : a ≠ X.env.locals := fun z => nfr (List.mem_filterMap.mpr ⟨X.env, .head _, h2.trans (congrArg some z.symm)⟩)
    have nF : a ∉ X.fs := fun hm => by
      obtain ⟨e, he, q⟩ := List.mem_filterMap.mp hm
      exact nfr (List.mem_filterMap.mpr ⟨e, .tail _ he, q⟩)
    have S3 := J3.suite e3 d3 na nL nF
    suffices go : ∀ {l1 : List ExceptHandler} {l2 : List (Value × Nat × (Addr → Value → Option Addr → TS))}, ClsA X l1 l2 → wAsM X.K Wo D l2 cls d τ G → wpAny M X.A (handleBy (.ref a) X.env l1) (SP X ps0 D) X.xe { s' with heap := k3 } from go hk w
    intro l1 l2 hk
    induction hk with
    | nil =>
      intro w
      refine wpAny_handleBy_nil ?_
      obtain ⟨_, _, _, oe, vs, T, oT, tt, he, hz, hd, hT, _⟩ := id f3
      refine wpAny_bind (wpAny_field he hd hT ?_)
      rw [if_neg (by simp : ¬ ((Value.ref T == Value.none) = true))]
      have fin : wpAny M X.A (setFlight (.ref a) X.env.frame) (fun _ t => wpAny M X.A (throw (.ref a) : Sem Flow) (SP X ps0 D) X.xe t) X.xe { s' with heap := k3 } := by
        rw [h2]
        refine HandSPX.setFlight_upZ f3 fun k4 g4 u4 => wpAny_throw (tk _ _ ⟨a, B, sI, ps0, τ, G, cls, d, rfl, J, nb, (up.trans u3).trans u4, .inr (.inr (h1.symm ▸ g4)), na, os, ag, w⟩)
      first
        | exact wpAny_bind (wpAny_pure (wpAny_bind fin))
        | exact wpAny_bind fin
    | @cons x n c i ts b0 bs p1 p2 hr2 lr2 hi hl hc hb r ih =>
      rintro ⟨b, eb, yes, no⟩
      refine wpAny_handleBy_cons (codeAny_handlers_test ?_) (fun q => by cases q)
      have LM := PySem.W.exm_one (M := M) J3.kIn (show PySem.W.Looks M k3 (typeOf (.ref a)) cls from fun A Q E t k q => wpAny_typeOf_ref (k _ _ e3) (by rw [z3.1]; exact q)) eb
      have ask : ∀ {Q E : Value → Shared → Prop}, Q c { s' with heap := k3 } → wpAny M (X.A.mark (some (.ref a))) (eval (.Name x p1) X.env) Q E { s' with heap := k3 } := fun {Q E} q => by
        obtain ⟨hg, hd, hm | ⟨hm, hv, hn⟩⟩ := hc
        · exact ld_glob (X := X.suite a ((a, o3) :: (X.pn ++ ps0))) S3 hg hm q hd
        · exact ld_blt (X := X.suite a ((a, o3) :: (X.pn ++ ps0))) S3 hg hm hv q hn hd
      refine ask (LM.here ?_)
      cases b with
      | false => exact ih (no rfl)
      | true =>
        refine codeAny_handlers_suite_as (HandSPX.lands_againZ f3 fun k4 f4 u4 => ?_)
        have J4 : Inv X ps0 τ G { s' with heap := k4 } := J.landed nb f4.1 ((up.trans u3).trans u4) os ag
        obtain ⟨o4, v4, e4, z4, d4⟩ := f4.there
        refine store_ok (X := X.suite a ((a, o4) :: (X.pn ++ ps0))) (v := .ref a) (J4.suite e4 d4 na nL nF) h3 hi (.inl hl) rfl (fun s5 S5 => ?_) (.inr hl)
        refine wpAny_mono ((hb a o4 cls d (X.pn ++ ps0) z4 ⟨_, d4⟩).run [] s5 _ G _ S5 (yes rfl a na)) (fun f s6 hf => ?_) (fun _ _ z => z.elim)
        have fin : ∀ {τ6 : L2.St} {G6 : Hp} {Q : Shared → Prop}, Inv (X.suite a ((a, o4) :: (X.pn ++ ps0))) [] τ6 G6 s6 → (∀ s7, Inv X ps0 (τ6.set i none) G6 s7 → Q s7) → wpAny M X.A (do bindName X.env n .none; unbindBehindTheSuite X.env n p2) (fun _ s7 => Q s7) X.xe s6 :=
          fun {τ6 G6 Q} S6 hq => gone_ok (S6.unsuite ok) h3 hi hl hq
        cases f with
        | ret u => obtain ⟨v6, τ6, G6, S6, r6, q6⟩ := hf; exact fin S6 fun s7 J7 => ⟨_, _, _, J7, r6, q6⟩
        | next => obtain ⟨τ6, G6, S6, q6⟩ := hf; exact fin S6 fun s7 J7 => ⟨_, _, J7, q6⟩
        | brk => obtain ⟨τ6, G6, S6, q6⟩ := hf; exact fin S6 fun s7 J7 => ⟨_, _, J7, q6⟩
        | cont => obtain ⟨τ6, G6, S6, q6⟩ := hf; exact fin S6 fun s7 J7 => ⟨_, _, J7, q6⟩
  refine wpAny_Try_except (wpAny_mono ((h4 (wAsM X.K Wo D l) (X.pn ++ ps0) XE T0 PassesOwn.looking).run [] s σ H D (I.toTry _) h) (fun f s1 hf => ?_) (fun e s1 he => he))
  cases f with
  | ret u => obtain ⟨v, τ, G, J, r, q⟩ := hf; exact ⟨v, τ, G, J.ofTry ok, r, q⟩
  | next => obtain ⟨τ, G, J, q⟩ := hf; exact wpAny_execs_nil ⟨τ, G, J.ofTry ok, q⟩
  | brk => obtain ⟨τ, G, J, q⟩ := hf; exact ⟨τ, G, J.ofTry ok, q⟩
  | cont => obtain ⟨τ, G, J, q⟩ := hf; exact ⟨τ, G, J.ofTry ok, q⟩
end

/-! ### enumerate(tuple) -/
section
variable {prog : Program} {w : World} {A : Around} {E : Value → Shared → Prop} {s : Shared}
theorem et_next {e it l : Addr} {c : Int} {i : Nat} {X : Array Value} {x old : Value} {Q : Value → Shared → Prop} (he : IsEnum s.heap e it c old) (hit : s.heap.IsTupleIter it l i) (hl : s.heap.IsTuple l X) (hx : X[i]? = some x) (hne : e ≠ it)
    (hQ : ∀ h', IsEnumOut h' e it (c + 1) x s.heap.objs.size → h'.IsTupleIter it l (i + 1) → h'.get? s.heap.objs.size = some { cls := .type "tuple", data := .seq #[.int c s.toks, x] } → h'.objs.size = s.heap.objs.size + 1 →
      (∀ b o, b ≠ e → b ≠ it → s.heap.get? b = some o → h'.get? b = some o) → Q (.ref s.heap.objs.size) { s with heap := h', toks := s.toks + 1 }) :
    wpAny (model prog w) A (Builtin.«enumerate.__next__» ⟨[.ref e], []⟩) (fun fin s' => ∃ v, fin = .done (.ret v) ∧ Q v s') E s := by
  obtain ⟨hp, g, d, tk, os⟩ := s
  show wpAny _ _ (field (.ref e) 2 >>= _) _ _ _
  refine wpAny_bind (wpAny_field he rfl (x := .ref it) rfl ?_)
  refine wpAny_bind (wpAny_nextOf_tuple_item hit hl hx fun g1 j1 s1 => ?_)
  have s1' : Heap.SameBut it hp g1 := s1
  have a1 : IsEnum g1 e it c old := s1'.extBut _ _ hne he
  show wpAny _ _ (field (.ref e) 3 >>= _) _ _ ⟨g1, g, d, tk, os⟩
  refine wpAny_bind (wpAny_field a1 rfl (x := rawInt c) rfl ?_)
  show wpAny _ _ (field (.ref e) 4 >>= _) _ _ ⟨g1, g, d, tk, os⟩
  refine wpAny_bind (wpAny_field a1 rfl (x := .none) rfl ?_)
  show wpAny _ _ (mkInt c >>= _) _ _ ⟨g1, g, d, tk, os⟩
  refine wpAny_bind (wpAny_mkInt ?_)
  show wpAny _ _ (setField (.ref e) 3 (rawInt (c + 1)) >>= _) _ _ ⟨g1, g, d, tk + 1, os⟩
  refine wpAny_bind (wpAny_setField_rec a1 (by simp) fun g2 b2 s2 => ?_)
  have a2 : IsEnum g2 e it (c + 1) old := b2
  have s2' : Heap.SameBut e g1 g2 := s2
  show wpAny _ _ (setField (.ref e) 4 .none >>= _) _ _ ⟨g2, g, d, tk + 1, os⟩
  refine wpAny_bind (wpAny_setField_rec a2 (by simp) fun g3 b3 s3 => ?_)
  have a3 : IsEnum g3 e it (c + 1) old := b3
  have s3' : Heap.SameBut e g2 g3 := s3
  have k3 : ∀ b o, b ≠ e → b ≠ it → hp.get? b = some o → g3.get? b = some o := fun b o n1 n2 q => s3'.extBut _ _ n1 (s2'.extBut _ _ n1 (s1'.extBut _ _ n2 q))
  have z3 : g3.objs.size = hp.objs.size := by rw [s3'.1, s2'.1, s1'.1]
  have j3 : g3.IsTupleIter it l (i + 1) := j1.at fun o q => s3'.extBut _ _ (Ne.symm hne) (s2'.extBut _ _ (Ne.symm hne) q)
  show wpAny _ _ (newTuple [.int c tk, x] >>= _) _ _ ⟨g3, g, d, tk + 1, os⟩
  refine wpAny_bind (wpAny_newTuple ?_)
  have a4 : IsEnum (g3.push { cls := .type "tuple", data := .seq #[.int c tk, x] }) e it (c + 1) old := Heap.get?_push_of_some _ a3
  have t4 : (g3.push { cls := .type "tuple", data := .seq #[.int c tk, x] }).get? g3.objs.size = some { cls := .type "tuple", data := .seq #[.int c tk, x] } := Heap.get?_push_size _ rfl
  have z4 : (g3.push { cls := .type "tuple", data := .seq #[.int c tk, x] }).objs.size = hp.objs.size + 1 := by rw [Heap.size_push, z3]
  have k4 : ∀ b o, b ≠ e → b ≠ it → hp.get? b = some o → (g3.push { cls := .type "tuple", data := .seq #[.int c tk, x] }).get? b = some o := fun b o n1 n2 q => Heap.get?_push_of_some _ (k3 b o n1 n2 q)
  have j4 : (g3.push { cls := .type "tuple", data := .seq #[.int c tk, x] }).IsTupleIter it l (i + 1) := j3.at fun o q => Heap.get?_push_of_some _ q
  have lt : e < hp.objs.size := Heap.lt_size he
  generalize g3.push { cls := .type "tuple", data := .seq #[.int c tk, x] } = g4 at a4 t4 z4 k4 j4
  show wpAny _ _ (Builtin.SmallTypes.ownedTupleIsFree (.ref e) >>= _) _ _ ⟨g4, g, d, tk + 1, os⟩
  rw [z3]
  rw [z3] at t4
  refine wpAny_bind ?_
  unfold Builtin.SmallTypes.ownedTupleIsFree
  refine wpAny_bind (wpAny_field a4 rfl (x := .none) rfl (wpAny_pure ?_))
  simp only [if_true]
  refine wpAny_bind (wpAny_rule (wpAny_bind (wpAny_field a4 rfl (x := old) rfl ?_)))
  refine wpAny_bind (wpAny_setField_rec a4 (by simp) fun g5 b5 s5 => ?_)
  have a5 : IsEnum g5 e it (c + 1) x := b5
  have s5' : Heap.SameBut e g4 g5 := s5
  show wpAny _ _ (Builtin.SmallTypes.ownedTupleHandOut (.ref e) (.ref hp.objs.size) >>= _) _ _ ⟨g5, g, d, tk + 1, os⟩
  refine wpAny_bind ?_
  unfold Builtin.SmallTypes.ownedTupleHandOut
  refine wpAny_bind (wpAny_setField_rec a5 (by simp) fun g6 b6 s6 => ?_)
  have a6 : IsEnumOut g6 e it (c + 1) x hp.objs.size := b6
  have s6' : Heap.SameBut e g5 g6 := s6
  refine wpAny_setField_rec a6 (by simp) fun g7 b7 s7 => ?_
  have s7' : Heap.SameBut e g6 g7 := s7
  have up : ∀ b o, b ≠ e → g4.get? b = some o → g7.get? b = some o := fun b o n q => s7'.extBut _ _ n (s6'.extBut _ _ n (s5'.extBut _ _ n q))
  refine wpAny_bind (wpAny_letGo (wpAny_pure ⟨_, rfl, hQ g7 b7 (j4.at fun o q => up _ o (Ne.symm hne) q) (up _ _ (Nat.ne_of_gt lt) t4) (by rw [s7'.1, s6'.1, s5'.1, z4]) fun b o n1 n2 q => up b o n1 (k4 b o n1 n2 q)⟩))
theorem et_item {e it l : Addr} {c : Int} {i : Nat} {X : Array Value} {x old : Value} {Q : Option Value → Shared → Prop} (he : IsEnum s.heap e it c old) (hit : s.heap.IsTupleIter it l i) (hl : s.heap.IsTuple l X) (hx : X[i]? = some x) (hne : e ≠ it)
    (hQ : ∀ h', IsEnumOut h' e it (c + 1) x s.heap.objs.size → h'.IsTupleIter it l (i + 1) → h'.get? s.heap.objs.size = some { cls := .type "tuple", data := .seq #[.int c s.toks, x] } → h'.objs.size = s.heap.objs.size + 1 →
      (∀ b o, b ≠ e → b ≠ it → s.heap.get? b = some o → h'.get? b = some o) → Q (some (.ref s.heap.objs.size)) { s with heap := h', toks := s.toks + 1 }) : wpAny (model prog w) A (pyNext (.ref e)) Q E s := by
  have hT : s.TypeIs (.ref e) "enumerate" := ⟨_, he, rfl⟩
  unfold pyNext
  exact wpAny_bind (wpAny_attempt (wpAny_callSpecial?_slot (name := Str.ofString "__next__") hT F.slot_enumerate_next (wpAny_call_entry F.slot_enumerate_next hT F.entry_enumerate_next
    (et_next he hit hl hx hne fun h' q1 q2 q3 q4 q5 => wpAny_pure (hQ h' q1 q2 q3 q4 q5)) (F.args_enumerate_next_1 _))))
theorem et_stop {e it l : Addr} {c : Int} {i : Nat} {X : Array Value} {old : Value} {Q : Option Value → Shared → Prop} (hh : A.handled = none) (he : IsEnum s.heap e it c old) (hit : s.heap.IsTupleIter it l i) (hl : s.heap.IsTuple l X) (hx : X[i]? = none)
    (hQ : ∀ h', Heap.ExtBut it s.heap h' → Q none { s with heap := h' }) : wpAny (model prog w) A (pyNext (.ref e)) Q E s := by
  have hT : s.TypeIs (.ref e) "enumerate" := ⟨_, he, rfl⟩
  unfold pyNext
  refine wpAny_bind (wpAny_attempt (wpAny_callSpecial?_slot (name := Str.ofString "__next__") hT F.slot_enumerate_next (wpAny_call_entry F.slot_enumerate_next hT F.entry_enumerate_next ?_ (F.args_enumerate_next_1 _))))
  show wpAny _ _ (field (.ref e) 2 >>= _) _ _ _
  refine wpAny_bind (wpAny_field he rfl (x := .ref it) rfl (wpAny_bind (wpAny_nextOf_tuple_end hh hit hl hx fun h' x k z => ?_)))
  obtain ⟨o, ho, hc⟩ := z
  exact wpAny_bind (wpAny_isInstance (T := "StopIteration") (b := true) ⟨o, ho, hc⟩ isSubtype_stop (wpAny_pure (hQ _ k)))
end
theorem e3_meets (l : Addr) (X : Array Value) (n : Nat) (dct : Option Addr) (sl : Array (Option Value)) :
    Meets (Builtin.«enumerate.__new__» ⟨[.type "enumerate", .ref l], []⟩) (fun _ R s => s.heap.get? l = some { cls := .type "tuple", dict := dct, data := .seq X n, slots := sl } ∧
      R (.ok (.ret (.ref (s.heap.push { cls := .type "tuple_iterator", data := .fields #[.ref l, .int 0 0] }).objs.size)))
        { s with heap := (s.heap.push { cls := .type "tuple_iterator", data := .fields #[.ref l, .int 0 0] }).push { cls := .type "enumerate", data := .fields #[.none, .bool false, .ref s.heap.objs.size, rawInt 0, .none, .none] } }) :=
  .of_wp fun prog w A R s h => by
    obtain ⟨hp, g, d, tk, os⟩ := s; obtain ⟨hl, h⟩ := h
    have hsub := sub_enumerate
    have hL : Heap.IsTuple (Shared.heap ⟨hp, g, d, tk, os⟩) l X := ⟨_, hl, rfl, n, rfl⟩
    wp_walk using AutoSeq1.wpAny_loadPart' hl
    refine wpAny_stack_any fun st => wpAny_pure ?_
    split
    · rename_i c' _ _ _ _ _
      cases (c' == Value.type "enumerate")
      · wp_walk using AutoSeq1.wpAny_loadPart' hl, wpAny_pyIter_tuple hL
        exact ⟨_, rfl, h⟩
      · wp_walk using AutoSeq1.wpAny_loadPart' hl, wpAny_pyIter_tuple hL
        exact ⟨_, rfl, h⟩
    · wp_walk using AutoSeq1.wpAny_loadPart' hl, wpAny_pyIter_tuple hL
      exact ⟨_, rfl, h⟩
section
variable {prog : Program} {w : World} {A : Around} {E : Value → Shared → Prop} {s : Shared}
theorem e3_make {l : Addr} {X : Array Value} {Q : Value → Shared → Prop} (hL : s.heap.IsTuple l X)
    (h : ∀ h', IsEnum h' (s.heap.objs.size + 1) s.heap.objs.size 0 .none → h'.IsTupleIter s.heap.objs.size l 0 → (∀ b o, s.heap.get? b = some o → h'.get? b = some o) → Q (.ref (s.heap.objs.size + 1)) { s with heap := h' }) :
    wpAny (model prog w) A (call (.type "enumerate") [.ref l]) Q E s := by
  obtain ⟨⟨cl, dct, dt, sl⟩, hl, hc, n, hd⟩ := hL
  obtain rfl : cl = .type "tuple" := hc
  obtain rfl : dt = .seq X n := hd
  refine callType_new F.called_enumerate (by decide) (F.typeCall_enumerate_1 _) (F.newCall_enumerate_1 _) (fun obj => F.args_object_init_2 obj _) F.entry_enumerate_new (e3_meets l X n dct sl) ⟨hl, ?_⟩
  have hz : (s.heap.push { cls := .type "tuple_iterator", data := .fields #[.ref l, .int 0 0] }).objs.size = s.heap.objs.size + 1 := Heap.size_push ..
  have he : ((s.heap.push { cls := .type "tuple_iterator", data := .fields #[.ref l, .int 0 0] }).push { cls := .type "enumerate", data := .fields #[.none, .bool false, .ref s.heap.objs.size, rawInt 0, .none, .none] }).get?
      (s.heap.push { cls := .type "tuple_iterator", data := .fields #[.ref l, .int 0 0] }).objs.size = some _ := Heap.get?_push_size _ rfl
  show _ ∧ _
  rw [hz] at he ⊢
  exact ⟨⟨_, he, rfl⟩, h _ he ⟨_, Heap.get?_push_of_some _ (Heap.get?_push_size _ rfl), rfl, rfl⟩ fun b o x => Heap.get?_push_of_some _ (Heap.get?_push_of_some _ x)⟩
end
/-- the list at a as it stands at each turn, its items behind numbers from c on -/
def ItU (K : PySem.W.Frag) (a : Addr) (c : Int) : It :=
  ⟨fun i H => ∃ (xs : List V) (x : V), SqT K H a xs ∧ xs[i]? = some x, fun i H v H' => ∃ T x, v = .ref T ∧ H T = none ∧ H' = upd H T (.tup [.int (c + (i : Nat)), x]) ∧ ∀ xs, SqT K H a xs → xs[i]? = some x, fun i H => ∃ xs : List V, SqT K H a xs ∧ xs.length ≤ i⟩
theorem turn_enT {P : Program} {w : World} {K : PySem.W.Frag} {elts : List Expr} {kk : Nat} {tpos : Pos} (a e it : Addr) (c : Int) :
    Turn P w K (.Tuple elts kk tpos) (ItU K a c) [e, it] e (fun i h => (∃ old, IsEnum h e it (c + ((i : Nat) : Int)) old) ∧ h.IsTupleIter it a i ∧ e ≠ it) where
  mem := by simp
  obj := fun i h st b hb => by
    obtain ⟨⟨old, he⟩, ⟨o, ho, hc, hd⟩, _⟩ := st
    rcases (show b = e ∨ b = it by simpa using hb) with z | z
    · rw [z]; exact ⟨_, he, fun v q => nomatch q⟩
    · rw [z]; exact ⟨o, ho, fun v q => by rw [hd] at q; cases q⟩
  keep := fun i h h' st k => let ⟨⟨old, he⟩, hi, hne⟩ := st; ⟨⟨old, k e (by simp) _ he⟩, hi.at fun o q => k it (by simp) o q, hne⟩
  item := by
    intro X hP hw hK hc i pins s σ H E I hf st hg
    subst hP hw hK
    obtain ⟨⟨old, he⟩, hit, hne⟩ := st
    obtain ⟨xs, x, hq, hx⟩ := hg
    obtain ⟨its, rv, p, hz⟩ := I.tuple hq
    obtain ⟨u, hu, ru⟩ := rv.get hx
    have le : e < s.heap.objs.size := Heap.lt_size he
    have li : it < s.heap.objs.size := by obtain ⟨_, q, _⟩ := hit; exact Heap.lt_size q
    refine et_item he hit p (x := u) (by simpa using hu) hne fun h' ho hit' hT hsz hk => ?_
    refine ⟨_, rfl, wpAny_letOwnedTupleGo_enum (s := { s with heap := h', toks := s.toks + 1 }) ho fun h2 he2 sb => ?_⟩
    have hT2 : h2.get? s.heap.objs.size = some { cls := .type "tuple", data := .seq #[.int (c + (i : Nat)) s.toks, u] } := (sb.2 _ (Nat.ne_of_gt le)).trans hT
    have new : ObjOk X.prog X.w (upd H s.heap.objs.size (.tup [.int (c + (i : Nat)), x])) h2 s.heap.objs.size (.tup [.int (c + (i : Nat)), x]) :=
      ⟨by show 2 ≤ sizeLine; decide, [.int (c + (i : Nat)) s.toks, u], .cons ⟨_, rfl⟩ (.cons ru .nil), ⟨_, hT2, rfl, _, rfl⟩⟩
    have I1 : Inv X pins σ (upd H s.heap.objs.size (.tup [.int (c + (i : Nat)), x])) { s with heap := h2, toks := s.toks + 1 } :=
      I.turnedNew (ch := [e, it]) (fun b ob hb q => (sb.2 b (fun z => hb (by simp [z]))).trans (hk b ob (fun z => hb (by simp [z])) (fun z => hb (by simp [z])) q)) hf (Nat.le_refl _) new
    refine ⟨.ref s.heap.objs.size, _, I1, rfl, ⟨_, x, rfl, I.hok.fresh (Nat.le_refl _), rfl, fun ys hy => by rw [I.tuple_inj hy hq]; exact hx⟩, ⟨⟨u, ?_⟩, hit'.at fun o q => (sb.2 it (Ne.symm hne)).trans q, hne⟩, fun b hb => ?_⟩
    · have e1 : c + ((i + 1 : Nat) : Int) = c + (i : Int) + 1 := by omega
      rw [e1]; exact he2
    · have hb' : b < s.heap.objs.size := by
        rcases (show b = e ∨ b = it by simpa using hb) with z | z
        · rw [z]; exact le
        · rw [z]; exact li
      rw [upd_ne (Nat.ne_of_lt hb')]
      exact (hf b hb).1
  done := by
    intro X hP hw hK hc i pins s σ H E I hf st hg
    subst hP hw hK
    obtain ⟨⟨old, he⟩, hit, hne⟩ := st
    obtain ⟨xs, hq, hx⟩ := hg
    obtain ⟨its, rv, p, hz⟩ := I.tuple hq
    obtain ⟨f0, f1, f2, f3, f4, f5⟩ := hf it (by simp)
    have hl := rv.length
    exact et_stop (I.ok.hd hc) he hit p (by simp; omega) fun h' eb => ⟨rfl, I.turned (t' := s.toks) (fun b o hb q => eb b o hb q) f0 f1 f3 f4 f5⟩
  self := fun A i s Q E st h => let ⟨⟨_, he⟩, _⟩ := st; wpAny_pyIter_enum he h
def iEnumT (K : PySem.W.Frag) (ta : TA) : TI := fun σ H R => ta σ H fun vs H1 => ∃ a xs, vs = [.ref a] ∧ SqT K H1 a xs ∧ R (ItU K a 0) H1
theorem pi_enumT {X : Cx} {e : Expr} {ta : TA} {p pos tpos : Pos} {elts : List Expr} {kk : Nat} (hg : Gl X "enumerate") (hm : X.mg "enumerate" = none) (ha : PA X [e] ta) (hs : starEach [e] X.env = [(false, eval e X.env)] := by rfl) :
    PI X (.Tuple elts kk tpos) (.Call (.Name "enumerate" p) [e] [] pos) (iEnumT X.K ta) := by
  refine ⟨fun pins s σ H R I h => Call_ (ld_blt I hg hm boot_enumerate (PyProof.Rows.callWith_type1 (thn (ha.run pos pins s σ H _ I h) fun us s1 ⟨vs, G, J, r1, a, xs, ex, hq, q⟩ => ?_) hs rfl))⟩
  subst ex
  cases r1 with
  | cons r rr =>
    cases rr
    cases r
    obtain ⟨its, _, p', _⟩ := J.tuple hq
    refine e3_make p' fun h' he hit hk => wpAny_pyIter_enum he ?_
    refine ⟨s1.heap.objs.size + 1, [s1.heap.objs.size + 1, s1.heap.objs.size], _, _, G, rfl, J.kept (t' := s1.toks) hk, turn_enT a (s1.heap.objs.size + 1) s1.heap.objs.size 0, ⟨⟨.none, by rw [show (0 : Int) + ((0 : Nat) : Int) = 0 by omega]; exact he⟩, hit, Nat.succ_ne_self _⟩, fun b hb => ?_, q⟩
    have hle : s1.heap.objs.size ≤ b := by
      rcases (show b = s1.heap.objs.size + 1 ∨ b = s1.heap.objs.size by simpa using hb) with z | z
      · rw [z]; exact Nat.le_add_right _ _
      · rw [z]; exact Nat.le_refl _
    exact J.fpOk hle (J.hok.fresh hle)
/-- a loop over enumerate(xs, c) -/
theorem for_enT {K : PySem.W.Frag} {a : Addr} {c : Int} {xs : List V} {g : TG} {tb : TS} {nx : L2.St → Hp → Prop} {rt : VK} {σ : L2.St} {H : Hp} (Pv : Nat → L2.St → Hp → Prop) (h0 : Pv 0 σ H) (hl : ∀ i σ H, i ≤ xs.length → Pv i σ H → SqT K H a xs)
    (hs : ∀ i x (T : Addr) σ H, xs[i]? = some x → Pv i σ H → H T = none → g (.ref T) σ (upd H T (.tup [.int (c + (i : Nat)), x])) fun σ2 H2 => tb { nx := Pv (i + 1), rt := rt, bk := nx, ct := Pv (i + 1) } σ2 H2) (hd : ∀ σ H, Pv xs.length σ H → nx σ H) :
    ∃ W : Nat → Nat → L2.St → Hp → Prop, (∃ m, W 0 m σ H) ∧ ∀ i m σ H, W i m σ H → ((ItU K a c).stop i H ∧ nx σ H) ∨ ((ItU K a c).go i H ∧ ∃ N : L2.St → Hp → Prop, (∀ σ' H', N σ' H' → ∃ m', m' < m ∧ W (i + 1) m' σ' H') ∧
      ∀ v H', (ItU K a c).yld i H v H' → g v σ H' fun σ2 H2 => tb { nx := N, rt := rt, bk := nx, ct := N } σ2 H2) := by
  refine ⟨fun i r σ H => r = xs.length - i ∧ i ≤ xs.length ∧ Pv i σ H, ⟨xs.length, rfl, Nat.zero_le _, h0⟩, ?_⟩
  rintro i _ σ H ⟨rfl, hi, p⟩
  have q := hl i σ H hi p
  by_cases hlt : i < xs.length
  · have hx : xs[i]? = some xs[i] := List.getElem?_eq_getElem hlt
    refine .inr ⟨⟨xs, _, q, hx⟩, Pv (i + 1), fun σ' H' p' => ⟨xs.length - (i + 1), by omega, rfl, hlt, p'⟩, fun v H' y => ?_⟩
    obtain ⟨T, x', rfl, hT, rfl, f1⟩ := y
    exact hs i x' T σ H (f1 xs q) p hT
  · have e : i = xs.length := by omega
    subst e
    exact .inl ⟨⟨xs, q, Nat.le_refl _⟩, hd σ H p⟩

/-! ### a tape of numbers made from the script, and draws from it -/
def Nn (ts : List Int) : Prop := ∀ x ∈ ts, 0 ≤ x
theorem nn_nil : Nn [] := fun _ h => nomatch h
theorem Nn.snoc {ts : List Int} (h : Nn ts) {x : Int} (hx : 0 ≤ x) : Nn (ts ++ [x]) := fun y hy => by
  rcases List.mem_append.mp hy with hy | hy
  · exact h y hy
  · rw [List.mem_singleton] at hy; omega
def LstT (H : Hp) (Q : VK) (xs : List Int) : Prop := ∀ p H', Same H H' → H p = none → H' p = some (.lst (xs.map V.int)) → Q (.ref p) H'
def sp__law_tape (K : PySem.W.Frag) (cs : Cs) : Sp := fun vs H Q _ => ∃ (a : Addr) (ns : List Int), vs = [.ref a] ∧ SqL K H a (ns.map V.int) ∧ ns.length ≤ 63 ∧ ∀ ts : List Int, Nn ts → ts.length ≤ 2520 → LstT H Q ts
def sp__law_draw (K : PySem.W.Frag) (cs : Cs) : Sp := fun vs H Q _ => ∃ (a : Addr) (ts : List Int) (p : Int) (m : Int), vs = [.ref a, .int p, .int m] ∧ SqL K H a (ts.map V.int) ∧ (0 ≤ p ∧ p ≤ 1000000) ∧ 0 < m ∧ ∀ v : Int, 0 ≤ v → v < m → Q (.int v) H
section
variable {P : Program} {w : World} {K : PySem.W.Frag} {mg : Str → Option Value} {base : Heap} {cs : Cs}
theorem c__law_tape (D : Def K mg "_law_tape" s__law_tape ["script"]) (T : Tp w K mg cs)  : Cal P w K mg base CX0 1 "_law_tape" (sp__law_tape K cs) := by
  refine D.ok sc__law_tape (fun vs H Q E h => ?_) (fun f cdv A outer s H vs Q E hr h => ?_)
  · obtain ⟨a, ns, rfl, _⟩ := h; rfl
  · obtain ⟨a, ns, rfl, hS, hlen, q⟩ := h
    refine ⟨_, (pss_cons (ps_set (i := 1) sc__law_tape.nd rfl (by first | exact Or.inl rfl | exact Or.inr rfl) (pe_lst pa_nil))
      (pss_cons (ps_for PassesOwn.never rfl (pi_list (pv 0)) (pg_name (i := 2) sc__law_tape.nd rfl (by first | exact Or.inl rfl | exact Or.inr rfl)) (pss_cons (ps_set (i := 3) sc__law_tape.nd rfl (by first | exact Or.inl rfl | exact Or.inr rfl) (pe_op op_mul pe_int (pe_callTy call_int1 (by rfl) T.m_int (by decide +kernel) (pa_cons (pv 2) pa_nil))))
      (C8.pss_cut (ps_if (pt_cmpR op_lt (pv 3) pe_int (by first | rfl | exact nomark _)) (pss_one (ps_set (i := 3) sc__law_tape.nd rfl (by first | exact Or.inl rfl | exact Or.inr rfl) (pe_op op_sub (pe_un un_neg pe_int) (pv 3)))) pss_nil)
      (pss_one (ps_if (pt_cmpR op_ge (pv 3) (pe_op op_pow pe_int pe_int) (by first | rfl | exact nomark _)) (pss_one (ps_for PassesOwn.never rfl (pi_range1 (by rfl) T.m_range (pa_cons pe_int pa_nil)) (pg_name (i := 4) sc__law_tape.nd rfl (by first | exact Or.inl rfl | exact Or.inr rfl)) (pss_one (ps_if (pt_cmpR op_gt (pv 3) pe_int (by first | rfl | exact nomark _)) (pss_cons (ps_expr (pe_bm PySem.F.plainAttrs_list PySem.F.slot_list_append PySem.F.type_list_append mt_append (pv 1) (pa_cons (pe_op op_mod (pe_callTy call_int1 (by rfl) T.m_int (by decide +kernel) (pa_cons (pv 3) pa_nil)) pe_int) pa_nil)))
      (pss_one (ps_set (i := 3) sc__law_tape.nd rfl (by first | exact Or.inl rfl | exact Or.inr rfl) (pe_op op_fdiv (pv 3) pe_int)))) pss_nil)))) (pss_one (ps_for PassesOwn.never rfl (pi_range1 (by rfl) T.m_range (pa_cons pe_int pa_nil)) (pg_name (i := 4) sc__law_tape.nd rfl (by first | exact Or.inl rfl | exact Or.inr rfl)) (pss_cons (ps_set (i := 5) sc__law_tape.nd rfl (by first | exact Or.inl rfl | exact Or.inr rfl) (pe_op op_mod (pe_callTy call_int1 (by rfl) T.m_int (by decide +kernel) (pa_cons (pe_op op_add (pe_op op_add (pe_op op_mul (pv 3) pe_int) (pe_op op_mul (pv 4) pe_int)) pe_int) pa_nil)) pe_int))
      (pss_one (ps_expr (pe_bm PySem.F.plainAttrs_list PySem.F.slot_list_append PySem.F.type_list_append mt_append (pv 1) (pa_cons (pe_op op_mod (pe_callTy call_int1 (by rfl) T.m_int (by decide +kernel) (pa_cons (pe_op op_add (pe_op op_mul (pv 5) pe_int) (pe_op op_fdiv (pv 5) pe_int)) pa_nil)) pe_int) pa_nil))))))))))))
      (pss_one (ps_ret (pv 1))))), ?_⟩
    walk_at "go"
    intro p hp
    generalize e1 : upd H p (.lst []) = H1
    obtain ⟨s1, k1⟩ : Same H H1 ∧ H1 p = some (.lst (([] : List Int).map V.int)) := by subst e1; exact ⟨Same.new hp, upd_same⟩
    refine ⟨_, rfl, a, rfl, ⟨_, s1.seq hS⟩, for_listD (xs := ns.map V.int) (fun i σ H2 => ∃ (ts : List Int) (o2 o3 o4 o5 : Option V), σ = [some (.ref a), some (.ref p), o2, o3, o4, o5] ∧ Nn ts ∧ ts.length ≤ 40 * i ∧ Same H H2 ∧ H2 p = some (.lst (ts.map V.int)))
      ⟨[], _, _, _, _, rfl, nn_nil, Nat.le_refl _, s1, k1⟩ (fun i σ H2 _ h => by obtain ⟨ts, o2, o3, o4, o5, _, _, _, s2, _⟩ := h; exact s2.seq hS) ?_ ?_⟩
    · rintro i x _ H2 hx ⟨ts, o2, o3, o4, o5, rfl, hN, hl, s2, k2⟩
      obtain ⟨n, rfl⟩ : ∃ n, x = .int n := by
        rw [List.getElem?_map] at hx
        cases e : ns[i]? with
        | none => rw [e] at hx; cases hx
        | some k => rw [e] at hx; cases hx; exact ⟨k, rfl⟩
      have hi : i < ns.length := by
        have := (List.getElem?_eq_some_iff.mp hx).1
        rw [List.length_map] at this; exact this
      walk_at "go"
      refine ⟨fun σ H3 => H2 = H3 ∧ ∃ m : Int, 0 ≤ m ∧ σ = [some (.ref a), some (.ref p), some (.int n), some (.int m), o4, o5], ?_, ?_⟩
      · walk_at "go"
        refine ite2 (fun c => ?_) (fun c => ?_)
        · have c' : 2 * n < 0 := of_decide_eq_true c
          walk_at "go"
          exact ⟨_, by omega, rfl⟩
        · have c' : ¬ 2 * n < 0 := of_decide_eq_false (Bool.eq_false_iff.mpr c)
          exact ⟨rfl, _, by omega, rfl⟩
      rintro _ _ ⟨rfl, m, hm, rfl⟩
      walk_at "go"
      refine ite2 (fun c => ?_) (fun c => ?_)
      · refine ⟨_, rfl, by decide, by decide, for_rangeD (lo := 0) (n := 40) (fun j σ H3 => ∃ (ts' : List Int) (m' : Int) (o : Option V), σ = [some (.ref a), some (.ref p), some (.int n), some (.int m'), o, o5] ∧ Nn ts' ∧ ts'.length ≤ 40 * i + j ∧ Same H H3 ∧ H3 p = some (.lst (ts'.map V.int)))
          ⟨ts, m, _, rfl, hN, by omega, s2, k2⟩ ?_ ?_⟩
        · rintro j _ H3 hj ⟨ts', m', o, rfl, hN', hl', s3, k3⟩
          walk_at "go"
          refine ite2 (fun c => ?_) (fun c => ?_)
          · refine ⟨_, rfl, .inl ⟨rfl, _, SqL.of k3⟩, ?_⟩
            walk_at "go"
            refine ⟨_, _, _, rfl, rfl, k3, (by rw [List.length_map]; exact small64' (by omega)), ?_⟩
            walk_at "go"
            refine ⟨ts' ++ [m' % 1000], _, _, rfl, hN'.snoc (by omega), by rw [List.length_append, List.length_singleton]; omega, fun b o e => ?_, ?_⟩
            · rw [upd_ne (ne_of_none e hp)]; exact s3 _ _ e
            · rw [upd_same, List.map_append]; rfl
          · exact ⟨ts', m', _, rfl, hN', by omega, s3, k3⟩
        · rintro _ H3 ⟨ts', m', o, rfl, hN', hl', s3, k3⟩
          exact ⟨ts', _, _, _, _, rfl, hN', by omega, s3, k3⟩
      · refine ⟨_, rfl, by decide, by decide, for_rangeD (lo := 0) (n := 3) (fun j σ H3 => ∃ (ts' : List Int) (o o' : Option V), σ = [some (.ref a), some (.ref p), some (.int n), some (.int m), o, o'] ∧ Nn ts' ∧ ts'.length ≤ 40 * i + j ∧ Same H H3 ∧ H3 p = some (.lst (ts'.map V.int)))
          ⟨ts, _, _, rfl, hN, by omega, s2, k2⟩ ?_ ?_⟩
        · rintro j _ H3 hj ⟨ts', o, o', rfl, hN', hl', s3, k3⟩
          walk_at "go"
          refine ⟨.inl ⟨rfl, _, SqL.of k3⟩, ?_⟩
          walk_at "go"
          generalize (m * 48271 + (0 + (j : Int)) * 40503 + 11) % 2147483629 = fi
          refine ⟨_, _, _, rfl, rfl, k3, (by rw [List.length_map]; exact small64' (by omega)), ?_⟩
          walk_at "go"
          refine ⟨ts' ++ [(fi * 69621 + fi / 65536) % 2147483629], _, _, rfl, hN'.snoc (by omega), by rw [List.length_append, List.length_singleton]; omega, fun b o e => ?_, ?_⟩
          · rw [upd_ne (ne_of_none e hp)]; exact s3 _ _ e
          · rw [upd_same, List.map_append]; rfl
        · rintro _ H3 ⟨ts', o, o', rfl, hN', hl', s3, k3⟩
          exact ⟨ts', _, _, _, _, rfl, hN', by omega, s3, k3⟩
    · rintro _ H2 ⟨ts, o2, o3, o4, o5, rfl, hN, hl, s2, k2⟩
      rw [List.length_map] at hl
      walk_at "go"
      exact q ts hN (by omega) p H2 s2 hp k2
theorem c__law_draw (D : Def K mg "_law_draw" s__law_draw ["tape", "at", "many"]) (T : Tp w K mg cs)  : Cal P w K mg base CX0 1 "_law_draw" (sp__law_draw K cs) := by
  refine D.ok sc__law_draw (fun vs H Q E h => ?_) (fun f cdv A outer s H vs Q E hr h => ?_)
  · obtain ⟨a, ts, p, m, rfl, _⟩ := h; rfl
  · obtain ⟨a, ts, p, m, rfl, hS, ⟨hp0, hp⟩, hm, q⟩ := h
    obtain ⟨p, rfl⟩ := Int.eq_ofNat_of_zero_le hp0
    refine ⟨_, (pss_cons (ps_if (pt_cmpR op_lt (pv 1) (pe_callB call_len_seq (by rfl) T.m_len PySem.boot_len (pa_cons (pv 0) pa_nil)) (by first | rfl | exact nomark _)) (pss_one (ps_ret (pe_op op_mod (pe_callTy call_int1 (by rfl) T.m_int (by decide +kernel) (pa_cons (pe_ix ix_list (pv 0) (pv 1) (fun _ _ => rfl)) pa_nil)) (pv 2)))) pss_nil)
      (pss_cons (ps_set (i := 3) sc__law_draw.nd rfl (by first | exact Or.inl rfl | exact Or.inr rfl) pe_int)
      (C8.pss_cut (ps_if (pt_cmpR op_gt (pe_callB call_len_seq (by rfl) T.m_len PySem.boot_len (pa_cons (pv 0) pa_nil)) pe_int (by first | rfl | exact nomark _)) (pss_one (ps_set (i := 3) sc__law_draw.nd rfl (by first | exact Or.inl rfl | exact Or.inr rfl) (pe_ix ix_list (pv 0) (pe_op op_mod (pe_callTy call_int1 (by rfl) T.m_int (by decide +kernel) (pa_cons (pv 1) pa_nil)) (pe_callB call_len_seq (by rfl) T.m_len PySem.boot_len (pa_cons (pv 0) pa_nil))) (fun _ _ => rfl)))) pss_nil)
      (pss_one (ps_ret (pe_op op_mod (pe_op op_mod (pe_callTy call_int1 (by rfl) T.m_int (by decide +kernel) (pa_cons (pe_op op_add (pe_op op_mul (pe_op op_mul (pe_op op_add (pv 3) (pv 1)) (pe_op op_add (pv 1) pe_int)) pe_int) (pe_op op_mul (pv 1) pe_int)) pa_nil)) pe_int) (pv 2))))))), ?_⟩
    walk_at "go"
    simp only [List.length_map]
    refine ite2 (fun c => ?_) (fun c => ?_)
    · have c' : (p : Int) < ts.length := of_decide_eq_true c
      walk_at "go"
      exact q _ (Int.emod_nonneg _ (by omega)) (Int.emod_lt_of_pos _ hm)
    · walk_at "go"
      refine ⟨fun σ H2 => H = H2 ∧ ∃ n : Int, σ = [some (.ref a), some (.int p), some (.int m), some (.int n)], ?_, ?_⟩
      · walk_at "go"
        simp only [List.length_map]
        refine ite2 (fun c => ?_) (fun c => ?_)
        · have c' : (0 : Int) < ts.length := of_decide_eq_true c
          obtain ⟨k, ek, hk⟩ : ∃ k : Nat, (p : Int) % (ts.length : Int) = (k : Int) ∧ k < ts.length := ⟨p % ts.length, by omega, Nat.mod_lt _ (by omega)⟩
          walk_at "go"
          simp only [List.length_map, ek]
          refine ⟨by show (0 : Int) < ts.length; omega, ?_⟩
          walk_at "go"
          exact ⟨_, rfl⟩
        · exact ⟨rfl, _, rfl⟩
      rintro _ _ ⟨rfl, n, rfl⟩
      walk_at "go"
      exact q _ (Int.emod_nonneg _ (by omega)) (Int.emod_lt_of_pos _ hm)
end

/-! ### signatures, stores, modules -/
abbrev Shape := List Str × List Str
def OkS (s : Shape) : Prop := (∀ z ∈ s.1, z = "i32" ∨ z = "i64") ∧ (∀ z ∈ s.2, z = "i32" ∨ z = "i64") ∧ s.1.length ≤ 6 ∧ s.2.length ≤ 6
/-- a signature at T -/
def Sg (H : Hp) (T : Addr) (s : Shape) : Prop := ∃ p r, H T = some (.tup [.ref p, .ref r]) ∧ H p = some (.tup (s.1.map V.str)) ∧ H r = some (.tup (s.2.map V.str))
theorem Sg.mono {H H' : Hp} {T : Addr} {s : Shape} (e : Same H H') (h : Sg H T s) : Sg H' T s := by
  obtain ⟨p, r, h1, h2, h3⟩ := h
  exact ⟨p, r, e _ _ h1, e _ _ h2, e _ _ h3⟩
def datS (zs : List Str) : PyData := .tuple (zs.map PyData.str)
def dat (s : Shape) : PyData := .tuple [datS s.1, datS s.2]
theorem dp_strs {K : PySem.W.Frag} {H : Hp} : ∀ zs : List Str, DpAll K H (zs.map V.str) (zs.map PyData.str)
  | [] => .nil
  | _ :: r => .cons (.str _) (dp_strs r)
theorem Sg.dp {K : PySem.W.Frag} {H : Hp} {T : Addr} {s : Shape} (h : Sg H T s) : Dp K H (.ref T) (dat s) := by
  obtain ⟨p, r, h1, h2, h3⟩ := h
  exact .tup (SqT.of h1) (.cons (.tup (SqT.of h2) (dp_strs _)) (.cons (.tup (SqT.of h3) (dp_strs _)) .nil))
theorem canlay_strs : ∀ {zs : List Str}, (∀ z ∈ zs, PyData.strOk z = true) → PyData.canLayAll0 (zs.map PyData.str) = true
  | [], _ => rfl
  | z :: r, h => by
    show PyData.canLayAll0 (PyData.str z :: r.map PyData.str) = true
    simp only [PyData.canLayAll0, PyData.canLay0, h z (List.mem_cons_self ..), canlay_strs fun y hy => h y (List.mem_cons_of_mem _ hy), Bool.and_self]
theorem depth_strs : ∀ zs : List Str, PyData.depthAll (zs.map PyData.str) ≤ 1
  | [] => by simp [PyData.depthAll]
  | _ :: r => by
    have h := depth_strs r
    simp [PyData.depthAll, PyData.depth] at h ⊢
    omega
theorem ok_kind {z : Str} (h : z = "i32" ∨ z = "i64") : PyData.strOk z = true := by
  rcases h with rfl | rfl <;> decide +kernel
theorem dat_shaped {s : Shape} (h : OkS s) : SeqAt.shaped (dat s) = true := by
  unfold SeqAt.shaped dat datS
  have c1 := canlay_strs fun z hz => ok_kind (h.1 z hz)
  have c2 := canlay_strs fun z hz => ok_kind (h.2.1 z hz)
  have d1 := depth_strs s.1
  have d2 := depth_strs s.2
  rw [Bool.and_eq_true]
  refine ⟨?_, decide_eq_true ?_⟩
  · simp only [PyData.canLay0, PyData.canLayAll0, c1, c2, Bool.and_self]
  · simp only [PyData.depth, PyData.depthAll] at d1 d2 ⊢
    omega
theorem eqvAll_strs : ∀ zs ys : List Str, PyData.eqvAll (zs.map PyData.str) (ys.map PyData.str) = decide (zs = ys)
  | [], [] => by simp [PyData.eqvAll]
  | [], _ :: _ => by simp [PyData.eqvAll]
  | _ :: _, [] => by simp [PyData.eqvAll]
  | n :: ns, m :: ms => by
    rw [List.map_cons, List.map_cons, PyData.eqvAll, eqvAll_strs ns ms, PyData.eqv, Bool.eq_iff_iff]
    simp
theorem eqv_dat (s t : Shape) : PyData.eqv (dat s) (dat t) = decide (s = t) := by
  unfold dat datS
  rw [PyData.eqv, PyData.eqvAll, PyData.eqvAll, PyData.eqvAll, PyData.eqv, PyData.eqv, eqvAll_strs, eqvAll_strs, Bool.eq_iff_iff]
  simp [Prod.ext_iff]
theorem eqD_sg {K : PySem.W.Frag} {H : Hp} {a b : Addr} {s t : Shape} {Q : VK} (h1 : Sg H a s) (h2 : Sg H b t) (o1 : OkS s) (o2 : OkS t) (q : Q (.bl (decide (s = t))) H) : rEqD K (.ref a) (.ref b) H Q :=
  ⟨_, _, h1.dp, h2.dp, dat_shaped o1, dat_shaped o2, by rw [eqv_dat]; exact q⟩
/-- a pair of a text and a bool -/
def datKB (z : Str) (b : Bool) : PyData := .tuple [.str z, .bool b]
theorem datKB_shaped {z : Str} {b : Bool} (h : PyData.strOk z = true) : SeqAt.shaped (datKB z b) = true := by
  unfold SeqAt.shaped datKB
  simp [PyData.canLay0, PyData.canLayAll0, PyData.depth, PyData.depthAll, h]
theorem eqv_KB (z y : Str) (b c : Bool) : PyData.eqv (datKB z b) (datKB y c) = (decide (z = y) && decide (b = c)) := by
  unfold datKB
  rw [PyData.eqv, PyData.eqvAll, PyData.eqvAll, PyData.eqvAll, PyData.eqv, PyData.eqv, Bool.eq_iff_iff]
  simp
theorem eqD_KB {K : PySem.W.Frag} {H : Hp} {p r : Addr} {z y : Str} {b c : Bool} {Q : VK} (h1 : SqT K H p [.str z, .bl b]) (h2 : SqT K H r [.str y, .bl c]) (o1 : PyData.strOk z = true) (o2 : PyData.strOk y = true) (q : Q (.bl (decide (z = y) && decide (b = c))) H) : rEqD K (.ref p) (.ref r) H Q :=
  ⟨datKB z b, datKB y c, .tup h1 (.cons (.str _) (.cons (.bl _) .nil)), .tup h2 (.cons (.str _) (.cons (.bl _) .nil)), datKB_shaped o1, datKB_shaped o2, by rw [eqv_KB]; exact q⟩
theorem eqD_bl {K : PySem.W.Frag} {H : Hp} {b c : Bool} {Q : VK} (q : Q (.bl (decide (b = c))) H) : rEqD K (.bl b) (.bl c) H Q :=
  ⟨.bool b, .bool c, .bl _, .bl _, by simp [SeqAt.shaped, PyData.canLay0, PyData.depth], by simp [SeqAt.shaped, PyData.canLay0, PyData.depth], by
    rw [show PyData.eqv (.bool b) (.bool c) = decide (b = c) from by rw [PyData.eqv, Bool.eq_iff_iff]; simp]; exact q⟩
theorem newO {H H' : Hp} {p : Addr} {o : HO} (h : H p = none) (e : upd H p o = H') : Same H H' ∧ H' p = some o := by subst e; exact ⟨Same.new h, upd_same⟩
theorem cut_mid (xs : List V) {k n : Nat} (h : k ≤ n) : cutV xs (some (k : Int)) (some (n : Int)) = (xs.take n).drop k := by
  unfold cutV
  rw [HT.sIx_nat, HT.sIx_nat, List.drop_take]
  rcases Nat.le_total k xs.length with h1 | h1
  · rw [Nat.min_eq_left h1]
    rcases Nat.le_total n xs.length with h2 | h2
    · rw [Nat.min_eq_left h2]
    · rw [Nat.min_eq_right h2, List.take_of_length_le (by rw [List.length_drop]; omega), List.take_of_length_le (by rw [List.length_drop]; omega)]
  · rw [Nat.min_eq_right h1, List.drop_of_length_le (by omega), List.drop_of_length_le h1]; simp
/-- another object than the list at l -/
theorem ne_lst {H : Hp} {a l : Addr} {o : HO} {xs : List V} (h : H a = some o) (hl : H l = some (.lst xs)) (ho : ∀ ys, o ≠ .lst ys) : a ≠ l := fun e => by
  subst e; rw [hl] at h; cases h; exact ho _ rfl
/-! objects -/
def Tab (cs : Cs) (H : Hp) (p : Addr) (n m : Int) : Prop := ∃ dx e xs, H p = some (.ins cs.C_Table dx (fs_Table (.ref e) (.int m))) ∧ H e = some (.lst xs) ∧ (xs.length : Int) = n
def Mem (cs : Cs) (H : Hp) (p : Addr) (n m : Int) : Prop := ∃ dx d, H p = some (.ins cs.C_Memory dx (fs_Memory (.int n) (.int m) (.ref d)))
def Glo (cs : Cs) (H : Hp) (p : Addr) (k : Str) (b : Bool) (v : Int) : Prop := ∃ dx, H p = some (.ins cs.C_Global dx (fs_Global (.str k) (.bl b) (.int v)))
/-- a store and its six lists -/
def Sto (cs : Cs) (H : Hp) (p lf lt lm lv lg li : Addr) : Prop := ∃ dx, H p = some (.ins cs.C_Store dx (fs_Store (.ref lf) (.ref lt) (.ref lm) (.ref lv) (.ref lg) (.ref li)))
def sp_Table___init__ (K : PySem.W.Frag) (cs : Cs) : Sp := fun vs H Q _ => ∃ (p dx : Addr) (n m : Int), vs = [.ref p, .int n, .int m] ∧ H p = some (.ins cs.C_Table dx []) ∧ (0 ≤ n ∧ n ≤ 1000) ∧ ∀ (e : Addr) (xs : List V) H', H' p = some (.ins cs.C_Table dx (fs_Table (.ref e) (.int m))) → H' e = some (.lst xs) → (xs.length : Int) = n → H e = none → SameBut [p] H H' → Q .non H'
def sp_Memory___init__ (K : PySem.W.Frag) (cs : Cs) : Sp := fun vs H Q _ => ∃ (p dx : Addr) (n m : Int), vs = [.ref p, .int n, .int m] ∧ H p = some (.ins cs.C_Memory dx []) ∧ ∀ H', Mem cs H' p n m → SameBut [p] H H' → Q .non H'
def sp_Global___init__ (K : PySem.W.Frag) (cs : Cs) : Sp := fun vs H Q _ => ∃ (p dx : Addr) (k : Str) (b : Bool) (v : Int), vs = [.ref p, .str k, .bl b, .int v] ∧ H p = some (.ins cs.C_Global dx []) ∧ ∀ H', Glo cs H' p k b v → SameBut [p] H H' → Q .non H'
def sp_Store___init__ (K : PySem.W.Frag) (cs : Cs) : Sp := fun vs H Q _ => ∃ (p dx : Addr), vs = [.ref p] ∧ H p = some (.ins cs.C_Store dx []) ∧ ∀ lf lt lm lv lg li H', Sto cs H' p lf lt lm lv lg li → (∀ l ∈ [lf, lt, lm, lv, lg, li], H l = none ∧ H' l = some (.lst [])) → [lf, lt, lm, lv, lg, li].Nodup → SameBut [p] H H' → Q .non H'
def Sto.kind (lf lt lm lv lg li : Addr) (z : Str) : Addr := if z = "func" then lf else if z = "table" then lt else if z = "memory" then lm else if z = "global" then lv else if z = "tag" then lg else li
def sp_items_of (K : PySem.W.Frag) (cs : Cs) : Sp := fun vs H Q _ => ∃ (p lf lt lm lv lg li : Addr) (z : Str), vs = [.ref p, .str z] ∧ Sto cs H p lf lt lm lv lg li ∧ Q (.ref (Sto.kind lf lt lm lv lg li z)) H
def sp_check_signature (K : PySem.W.Frag) (cs : Cs) : Sp := fun vs H Q _ => ∃ (p r : Addr) (ps rs : List V), vs = [.ref p, .ref r] ∧ SqT K H p ps ∧ SqT K H r rs ∧ ps.length ≤ 16 ∧ rs.length ≤ 16 ∧ Q .non H
inductive Lim | none | some (n : Int)
def Lim.v : Lim → V
  | .none => .non
  | .some n => .int n
def Lim.fits (size most least : Int) : Lim → Bool
  | .none => decide (least ≤ size)
  | .some g => decide (least ≤ size) && decide (most ≤ g)
def sp_size_fits (K : PySem.W.Frag) (cs : Cs) : Sp := fun vs H Q _ => ∃ (size most least : Int) (L : Addr) (g : Lim), vs = [.int size, .int most, .ref L] ∧ SqT K H L [.int least, g.v] ∧ Q (.bl (g.fits size most least)) H
/-- a module whose signatures are x0, whose imports are x1 -/
def Modu (cs : Cs) (H : Hp) (p : Addr) (x0 x1 : V) : Prop := ∃ (dx : Addr) (m2 m3 m4 m5 m6 m7 m8 m9 m10 : V), H p = some (.ins cs.C_Module dx (fs_Module x0 x1 m2 m3 m4 m5 m6 m7 m8 m9 m10))
def sp_Module___init__ (K : PySem.W.Frag) (cs : Cs) : Sp := fun vs H Q _ => ∃ (p dx : Addr) (x0 x1 : V), vs = [.ref p, x0, x1, .ref cs.e_Module_functions, .ref cs.e_Module_tables, .ref cs.e_Module_memories, .ref cs.e_Module_tags, .ref cs.e_Module_variables, .ref cs.e_Module_exports, .non, .ref cs.e_Module_table_segments, .ref cs.e_Module_memory_segments] ∧ H p = some (.ins cs.C_Module dx []) ∧ ∀ H', Modu cs H' p x0 x1 → SameBut [p] H H' → Q .non H'
/-- the k-th host function, of a signature -/
def hostD (k : Nat) (s : Shape) : PyData := .tuple [.str "host", .int (k : Int), dat s]
def Hosts (K : PySem.W.Frag) (H : Hp) (Fs : List V) (ss : List Shape) : Prop := Fs.length = ss.length ∧ ∀ i s, ss[i]? = some s → ∃ v, Fs[i]? = some v ∧ Dt K H v (hostD i s)
theorem Hosts.ti {K : PySem.W.Frag} {H H' : Hp} {Fs : List V} {ss : List Shape} (e : Ti K H H') (h : Hosts K H Fs ss) : Hosts K H' Fs ss := ⟨h.1, fun i s q => by obtain ⟨v, e1, e2⟩ := h.2 i s q; exact ⟨v, e1, e2.ti e⟩⟩
theorem Hosts.snoc {K : PySem.W.Frag} {H : Hp} {Fs : List V} {ss : List Shape} {F : V} {s : Shape} (h : Hosts K H Fs ss) (d : Dt K H F (hostD ss.length s)) : Hosts K H (Fs ++ [F]) (ss ++ [s]) := by
  refine ⟨by rw [List.length_append, List.length_append, h.1]; rfl, fun i s' q => ?_⟩
  rcases Nat.lt_trichotomy i ss.length with l | l | l
  · rw [List.getElem?_append_left l] at q
    obtain ⟨v, e1, e2⟩ := h.2 i s' q
    exact ⟨v, by rw [List.getElem?_append_left (by rw [h.1]; exact l)]; exact e1, e2⟩
  · subst l
    rw [List.getElem?_append_right (Nat.le_refl _), Nat.sub_self] at q
    cases q
    exact ⟨F, by rw [List.getElem?_append_right (by rw [h.1]; exact Nat.le_refl _), h.1, Nat.sub_self]; rfl, d⟩
  · rw [List.getElem?_eq_none (by rw [List.length_append]; show ss.length + 1 ≤ i; omega)] at q
    cases q
/-- what stands in a store -/
structure Its where
  f : List Shape
  g : List Shape
  t : List (Int × Int)
  m : List (Int × Int)
  v : List (Str × Bool)
inductive Im | sh (s : Shape) | pr (a b : Int) | gv (z : Str) (b : Bool)
def Im.d : Im → PyData
  | .sh s => dat s
  | .pr a b => .tuple [.int a, .int b]
  | .gv z b => .tuple [.str z, .bool b]
def Its.all (I : Its) (kd : Str) : List Im := if kd = "func" then I.f.map .sh else if kd = "table" then I.t.map (fun p => .pr p.1 p.2) else if kd = "memory" then I.m.map (fun p => .pr p.1 p.2) else if kd = "global" then I.v.map (fun p => .gv p.1 p.2) else I.g.map .sh
theorem tiL {K : PySem.W.Frag} {H H' : Hp} {l : Addr} {xs : List V} (b : SameBut [l] H H') (h : H l = some (.lst xs)) : Ti K H H' := fun a ys q => by
  rcases q with (q | ⟨o, q⟩) | q
  · exact .inl (.inl (b _ _ (fun z => by rw [List.mem_singleton] at z; subst z; rw [h] at q; cases q) q))
  · exact .inl (.inr ⟨o, b _ _ (fun z => by rw [List.mem_singleton] at z; subst z; rw [h] at q; cases q) q⟩)
  · exact .inr q
structure StoI (K : PySem.W.Frag) (cs : Cs) (H : Hp) (st : Addr) (I : Its) : Prop where
  ex : ∃ (lf lt lm lv lg li : Addr) (Fs Ts Ms Vs Gs : List V), Sto cs H st lf lt lm lv lg li ∧ H lf = some (.lst Fs) ∧ Hosts K H Fs I.f ∧ H lg = some (.lst Gs) ∧ DtA K H Gs (I.g.map dat) ∧
    H lt = some (.lst Ts) ∧ Ts.length = I.t.length ∧ (∀ (i : Nat) (p : Int × Int), I.t[i]? = some p → ∃ a : Addr, Ts[i]? = some (.ref a) ∧ Tab cs H a p.1 p.2) ∧
    H lm = some (.lst Ms) ∧ Ms.length = I.m.length ∧ (∀ (i : Nat) (p : Int × Int), I.m[i]? = some p → ∃ a : Addr, Ms[i]? = some (.ref a) ∧ Mem cs H a p.1 p.2) ∧
    H lv = some (.lst Vs) ∧ Vs.length = I.v.length ∧ (∀ (i : Nat) (p : Str × Bool), I.v[i]? = some p → ∃ a : Addr, Vs[i]? = some (.ref a) ∧ Glo cs H a p.1 p.2 0) ∧ H li = some (.lst [])
inductive Wt | sg (k : Nat) | gl (z : Str) (b : Bool) | lim (l : Int) (g : Lim)
def Lim.d : Lim → PyData
  | .none => PyData.none
  | .some n => .int n
theorem Lim.dv {K : PySem.W.Frag} {H : Hp} : ∀ {v : V} {g : Lim}, Dt K H v g.d → v = g.v
  | _, .none, h => h.vnon
  | _, .some _, h => h.vint
def Wt.d : Wt → PyData
  | .sg k => .int (k : Int)
  | .gl z b => .tuple [.str z, .bool b]
  | .lim l g => .tuple [.int l, g.d]
/-- does a thing fit what a module asks -/
def Im.fits (sg : List Shape) : Im → Wt → Bool
  | .sh s, .sg k => decide (some s = sg[k]?)
  | .gv z b, .gl y c => decide (z = y) && decide (b = c)
  | .pr n m, .lim l g => g.fits n m l
  | _, _ => false
/-- a want of a kind -/
def Wt.of (sg : List Shape) (kd : Str) (w : Wt) : Prop := ((kd = "func" ∨ kd = "tag") ∧ ∃ k s, w = .sg k ∧ sg[k]? = some s) ∨ (kd = "global" ∧ ∃ z b, w = .gl z b ∧ PyData.strOk z = true) ∨ ((kd = "table" ∨ kd = "memory") ∧ ∃ l g, w = .lim l g)
structure Rw where
  m : Str
  n : Str
  kd : Str
  w : Wt
def Rw.d (r : Rw) : PyData := .tuple [.str r.m, .str r.n, .str r.kd, r.w.d]
def ItsOk (I : Its) : Prop := (∀ s ∈ I.f, OkS s) ∧ (∀ s ∈ I.g, OkS s) ∧ ∀ p ∈ I.v, PyData.strOk p.1 = true
def sp_host_functions (K : PySem.W.Frag) (cs : Cs) : Sp := fun vs H Q _ => ∃ (p lf lt lm lv lg li : Addr) (Fs : List V) (ss : List Shape), vs = [.ref p] ∧ Sto cs H p lf lt lm lv lg li ∧ H lf = some (.lst Fs) ∧ Hosts K H Fs ss ∧ ss.length ≤ 100 ∧ ∀ q xs H', Same H H' → H' q = some (.lst xs) → xs.length = ss.length → Q (.ref q) H'
def sp_add_host (K : PySem.W.Frag) (cs : Cs) : Sp := fun vs H Q _ => ∃ (s p r lf lt lm lv lg li : Addr) (Fs : List V) (ss : List Shape) (sh : Shape), vs = [.ref s, .ref p, .ref r] ∧ Sto cs H s lf lt lm lv lg li ∧ H lf = some (.lst Fs) ∧ Hosts K H Fs ss ∧ ss.length < 20 ∧ Dt K H (.ref p) (datS sh.1) ∧ Dt K H (.ref r) (datS sh.2) ∧ OkS sh ∧
  ∀ F H', SameBut [lf] H H' → H' lf = some (.lst (Fs ++ [F])) → Hosts K H' (Fs ++ [F]) (ss ++ [sh]) → Q (.int (ss.length : Int)) H'
def sp_item_fits (K : PySem.W.Frag) (cs : Cs) : Sp := fun vs H Q _ => ∃ (st mo row sg : Addr) (x1 : V) (I : Its) (ss : List Shape) (r : Rw) (i : Nat) (im : Im), vs = [.ref st, .ref mo, .ref row, .int (i : Int)] ∧ StoI K cs H st I ∧ ItsOk I ∧ Modu cs H mo (.ref sg) x1 ∧ Dt K H (.ref sg) (.tuple (ss.map dat)) ∧ (∀ s ∈ ss, OkS s) ∧
  Dt K H (.ref row) r.d ∧ r.w.of ss r.kd ∧ (I.all r.kd)[i]? = some im ∧ ∀ H', Same H H' → Q (.bl (im.fits ss r.w)) H'
theorem sto_step {H G : Hp} {p a : Addr} {o o' : HO} (b : SameBut [p] H G) (kp : G p = some o) (ho : ∀ xs, o ≠ .lst xs) (ha : G a = none) : SameBut [p] H (upd (upd G a (.lst [])) p o') ∧ (upd (upd G a (.lst [])) p o') p = some o' ∧ (upd (upd G a (.lst [])) p o') a = some (.lst []) ∧
    p ≠ a ∧ H a = none ∧ ∀ l xs, G l = some (.lst xs) → (upd (upd G a (.lst [])) p o') l = some (.lst xs) ∧ l ≠ a := by
  have n1 : p ≠ a := fun e => by subst e; rw [ha] at kp; cases kp
  refine ⟨fun c x nc e => ?_, upd_same, ?_, n1, ?_, fun l xs hl => ?_⟩
  · have cp : c ≠ p := fun z => nc (List.mem_singleton.mpr z)
    have e2 := b c x nc e
    rw [upd_ne cp, upd_ne (ne_of_none e2 ha)]; exact e2
  · rw [upd_ne n1.symm, upd_same]
  · cases e : H a with
    | none => rfl
    | some x =>
      have := b a x (fun z => n1 (List.mem_singleton.mp z).symm) e
      rw [ha] at this; cases this
  · have lp : l ≠ p := fun z => by
      subst z
      rw [kp] at hl; cases hl; exact ho _ rfl
    have la : l ≠ a := ne_of_none hl ha
    rw [upd_ne lp, upd_ne la]
    exact ⟨hl, la⟩
section
variable {P : Program} {w : World} {K : PySem.W.Frag} {mg : Str → Option Value} {base : Heap} {cs : Cs}
theorem c_Table___init__ (D : DefI K (Cs.C_Table cs) "Table.__init__" s_Table___init__ ["self", "size", "most"]) (T : Tp w K mg cs)  : CalI P w K mg base CX0 (Cs.C_Table cs) 1 (sp_Table___init__ K cs) := by
  refine D.ok sc_Table___init__ (fun vs H Q E h => ?_) (fun f cdv A outer s H vs Q E hr h => ?_)
  · obtain ⟨p, dx, n, m, rfl, _⟩ := h; rfl
  · obtain ⟨p, dx, n, m, rfl, hp, ⟨hn0, hn⟩, q⟩ := h
    refine ⟨_, (pss_cons (ps_fld (pv 0) (pe_op op_rep (pe_lst (pa_cons pe_non pa_nil)) (pv 1)) rfl)
      (pss_one (ps_fld (pv 0) (pv 2) rfl))), ?_⟩
    walk_at "go"
    intro e1 he1
    generalize x1 : upd H e1 _ = H1
    obtain ⟨s1, k1⟩ := newO he1 x1
    clear x1
    refine ⟨_, rfl, e1, n, _, rfl, rfl, k1, by omega, by omega, small64 (by show 1 * n.toNat ≤ _; omega), fun e he => ?_⟩
    have ll : ((List.replicate n.toNat [V.non]).flatten).length = n.toNat := by simp
    generalize (List.replicate n.toNat [V.non]).flatten = xs at ll
    generalize x2 : upd H1 e _ = H2
    obtain ⟨s2, k2⟩ := newO he x2
    clear x2
    have s12 := s1.trans s2
    have ne : e ≠ p := fun z => by subst z; rw [s1 _ _ hp] at he; cases he
    refine ⟨_, rfl, p, _, dx, _, rfl, s12 _ _ hp, T.cl_Table, T.n_Table_entries, (by show 0 < 1000; decide), ?_⟩
    rw [in_Table_0 (x0 := .ref e) (x1 := .int m)]
    refine ⟨_, rfl, _, rfl, p, _, dx, _, rfl, upd_same, T.cl_Table, T.n_Table_most, (by show 1 < 1000; decide), ?_⟩
    rw [in_Table_1 (x0 := .ref e) (x1 := .int m)]
    have mm : p ∈ [p] := List.mem_singleton.mpr rfl
    refine q e xs _ upd_same ?_ (by omega) (none_of s1 he) (((Same.but s12).upd mm).upd mm)
    rw [upd_ne ne, upd_ne ne]; exact k2
theorem c_Memory___init__ (D : DefI K (Cs.C_Memory cs) "Memory.__init__" s_Memory___init__ ["self", "pages", "most"]) (T : Tp w K mg cs)  : CalI P w K mg base CX0 (Cs.C_Memory cs) 1 (sp_Memory___init__ K cs) := by
  refine D.ok sc_Memory___init__ (fun vs H Q E h => ?_) (fun f cdv A outer s H vs Q E hr h => ?_)
  · obtain ⟨p, dx, n, m, rfl, _⟩ := h; rfl
  · obtain ⟨p, dx, n, m, rfl, hp, q⟩ := h
    refine ⟨_, (pss_cons (ps_fld (pv 0) (pv 1) rfl)
      (pss_cons (ps_fld (pv 0) (pv 2) rfl)
      (pss_one (ps_fld (pv 0) pe_dnewK rfl)))), ?_⟩
    refine ⟨_, rfl, _, rfl, p, _, dx, _, rfl, hp, T.cl_Memory, T.n_Memory_pages, (by show 0 < 1000; decide), ?_⟩
    rw [in_Memory_0 (x0 := .int n) (x1 := .int m) (x2 := .non)]
    refine ⟨_, rfl, _, rfl, p, _, dx, _, rfl, upd_same, T.cl_Memory, T.n_Memory_most, (by show 1 < 1000; decide), ?_⟩
    rw [in_Memory_1 (x0 := .int n) (x1 := .int m) (x2 := .non)]
    intro d hd
    have nd : p ≠ d := fun e => by subst e; rw [upd_same] at hd; cases hd
    refine ⟨_, rfl, p, _, dx, _, rfl, (upd_ne nd).trans upd_same, T.cl_Memory, T.n_Memory_cells, (by show 2 < 1000; decide), ?_⟩
    rw [in_Memory_2 (x0 := .int n) (x1 := .int m) (x2 := .ref d)]
    have mm : p ∈ [p] := List.mem_singleton.mpr rfl
    refine q _ ⟨dx, d, upd_same⟩ ?_
    refine SameBut.upd (fun b o nb e => ?_) mm
    have hb : b ≠ p := fun z => nb (List.mem_singleton.mpr z)
    have hbd : b ≠ d := fun z => by
      subst z
      rw [upd_ne hb, upd_ne hb, e] at hd; cases hd
    rw [upd_ne hbd, upd_ne hb, upd_ne hb]; exact e
theorem c_Global___init__ (D : DefI K (Cs.C_Global cs) "Global.__init__" s_Global___init__ ["self", "kind", "mutable", "value"]) (T : Tp w K mg cs)  : CalI P w K mg base CX0 (Cs.C_Global cs) 1 (sp_Global___init__ K cs) := by
  refine D.ok sc_Global___init__ (fun vs H Q E h => ?_) (fun f cdv A outer s H vs Q E hr h => ?_)
  · obtain ⟨p, dx, k, b, v, rfl, _⟩ := h; rfl
  · obtain ⟨p, dx, k, b, v, rfl, hp, q⟩ := h
    refine ⟨_, (pss_cons (ps_fld (pv 0) (pv 1) rfl)
      (pss_cons (ps_fld (pv 0) (pv 2) rfl)
      (pss_one (ps_fld (pv 0) (pv 3) rfl)))), ?_⟩
    refine ⟨_, rfl, _, rfl, p, _, dx, _, rfl, hp, T.cl_Global, T.n_Global_kind, (by show 0 < 1000; decide), ?_⟩
    rw [in_Global_0 (x0 := .str k) (x1 := .bl b) (x2 := .int v)]
    refine ⟨_, rfl, _, rfl, p, _, dx, _, rfl, upd_same, T.cl_Global, T.n_Global_mutable, (by show 1 < 1000; decide), ?_⟩
    rw [in_Global_1 (x0 := .str k) (x1 := .bl b) (x2 := .int v)]
    refine ⟨_, rfl, _, rfl, p, _, dx, _, rfl, upd_same, T.cl_Global, T.n_Global_value, (by show 2 < 1000; decide), ?_⟩
    rw [in_Global_2 (x0 := .str k) (x1 := .bl b) (x2 := .int v)]
    have mm : p ∈ [p] := List.mem_singleton.mpr rfl
    exact q _ ⟨dx, upd_same⟩ ((((SameBut.refl _).upd mm).upd mm).upd mm)
theorem c_Store___init__ (D : DefI K (Cs.C_Store cs) "Store.__init__" s_Store___init__ ["self"]) (T : Tp w K mg cs)  : CalI P w K mg base CX0 (Cs.C_Store cs) 1 (sp_Store___init__ K cs) := by
  refine D.ok sc_Store___init__ (fun vs H Q E h => ?_) (fun f cdv A outer s H vs Q E hr h => ?_)
  · obtain ⟨p, dx, rfl, _⟩ := h; rfl
  · obtain ⟨p, dx, rfl, hp, q⟩ := h
    refine ⟨_, (pss_cons (ps_fld (pv 0) (pe_lst pa_nil) rfl)
      (pss_cons (ps_fld (pv 0) (pe_lst pa_nil) rfl)
      (pss_cons (ps_fld (pv 0) (pe_lst pa_nil) rfl)
      (pss_cons (ps_fld (pv 0) (pe_lst pa_nil) rfl)
      (pss_cons (ps_fld (pv 0) (pe_lst pa_nil) rfl)
      (pss_one (ps_fld (pv 0) (pe_lst pa_nil) rfl))))))), ?_⟩
    have b0 : SameBut [p] H H := SameBut.refl _
    walk_at "go"
    intro l1 h1
    obtain ⟨b1, p1, m1, n1, z1, f1⟩ := sto_step (o' := .ins cs.C_Store dx [(("functions" : Str), V.ref l1)]) b0 hp (fun _ z => nomatch z) h1
    refine ⟨_, rfl, p, _, dx, _, rfl, (upd_ne n1).trans hp, T.cl_Store, T.n_Store_functions, (by show 0 < 1000; decide), ?_⟩
    rw [in_Store_0 (x0 := .ref l1) (x1 := .non) (x2 := .non) (x3 := .non) (x4 := .non) (x5 := .non)]
    generalize upd (upd H l1 (.lst [])) p _ = G1 at b1 p1 m1 ⊢
    clear f1
    walk_at "go"
    intro l2 h2
    obtain ⟨b2, p2, m2, n2, z2, f2⟩ := sto_step (o' := .ins cs.C_Store dx [(("functions" : Str), V.ref l1), (("tables" : Str), V.ref l2)]) b1 p1 (fun _ z => nomatch z) h2
    refine ⟨_, rfl, p, _, dx, _, rfl, (upd_ne n2).trans p1, T.cl_Store, T.n_Store_tables, (by show 1 < 1000; decide), ?_⟩
    rw [in_Store_1 (x0 := .ref l1) (x1 := .ref l2) (x2 := .non) (x3 := .non) (x4 := .non) (x5 := .non)]
    have g1_2 := f2 _ _ m1
    generalize upd (upd G1 l2 (.lst [])) p _ = G2 at b2 p2 m2 g1_2 ⊢
    clear f2
    walk_at "go"
    intro l3 h3
    obtain ⟨b3, p3, m3, n3, z3, f3⟩ := sto_step (o' := .ins cs.C_Store dx [(("functions" : Str), V.ref l1), (("tables" : Str), V.ref l2), (("memories" : Str), V.ref l3)]) b2 p2 (fun _ z => nomatch z) h3
    refine ⟨_, rfl, p, _, dx, _, rfl, (upd_ne n3).trans p2, T.cl_Store, T.n_Store_memories, (by show 2 < 1000; decide), ?_⟩
    rw [in_Store_2 (x0 := .ref l1) (x1 := .ref l2) (x2 := .ref l3) (x3 := .non) (x4 := .non) (x5 := .non)]
    have g1_3 := f3 _ _ g1_2.1
    have g2_3 := f3 _ _ m2
    generalize upd (upd G2 l3 (.lst [])) p _ = G3 at b3 p3 m3 g1_3 g2_3 ⊢
    clear f3
    walk_at "go"
    intro l4 h4
    obtain ⟨b4, p4, m4, n4, z4, f4⟩ := sto_step (o' := .ins cs.C_Store dx [(("functions" : Str), V.ref l1), (("tables" : Str), V.ref l2), (("memories" : Str), V.ref l3), (("variables" : Str), V.ref l4)]) b3 p3 (fun _ z => nomatch z) h4
    refine ⟨_, rfl, p, _, dx, _, rfl, (upd_ne n4).trans p3, T.cl_Store, T.n_Store_variables, (by show 3 < 1000; decide), ?_⟩
    rw [in_Store_3 (x0 := .ref l1) (x1 := .ref l2) (x2 := .ref l3) (x3 := .ref l4) (x4 := .non) (x5 := .non)]
    have g1_4 := f4 _ _ g1_3.1
    have g2_4 := f4 _ _ g2_3.1
    have g3_4 := f4 _ _ m3
    generalize upd (upd G3 l4 (.lst [])) p _ = G4 at b4 p4 m4 g1_4 g2_4 g3_4 ⊢
    clear f4
    walk_at "go"
    intro l5 h5
    obtain ⟨b5, p5, m5, n5, z5, f5⟩ := sto_step (o' := .ins cs.C_Store dx [(("functions" : Str), V.ref l1), (("tables" : Str), V.ref l2), (("memories" : Str), V.ref l3), (("variables" : Str), V.ref l4), (("tags" : Str), V.ref l5)]) b4 p4 (fun _ z => nomatch z) h5
    refine ⟨_, rfl, p, _, dx, _, rfl, (upd_ne n5).trans p4, T.cl_Store, T.n_Store_tags, (by show 4 < 1000; decide), ?_⟩
    rw [in_Store_4 (x0 := .ref l1) (x1 := .ref l2) (x2 := .ref l3) (x3 := .ref l4) (x4 := .ref l5) (x5 := .non)]
    have g1_5 := f5 _ _ g1_4.1
    have g2_5 := f5 _ _ g2_4.1
    have g3_5 := f5 _ _ g3_4.1
    have g4_5 := f5 _ _ m4
    generalize upd (upd G4 l5 (.lst [])) p _ = G5 at b5 p5 m5 g1_5 g2_5 g3_5 g4_5 ⊢
    clear f5
    walk_at "go"
    intro l6 h6
    obtain ⟨b6, p6, m6, n6, z6, f6⟩ := sto_step (o' := .ins cs.C_Store dx [(("functions" : Str), V.ref l1), (("tables" : Str), V.ref l2), (("memories" : Str), V.ref l3), (("variables" : Str), V.ref l4), (("tags" : Str), V.ref l5), (("instances" : Str), V.ref l6)]) b5 p5 (fun _ z => nomatch z) h6
    refine ⟨_, rfl, p, _, dx, _, rfl, (upd_ne n6).trans p5, T.cl_Store, T.n_Store_instances, (by show 5 < 1000; decide), ?_⟩
    rw [in_Store_5 (x0 := .ref l1) (x1 := .ref l2) (x2 := .ref l3) (x3 := .ref l4) (x4 := .ref l5) (x5 := .ref l6)]
    have g1_6 := f6 _ _ g1_5.1
    have g2_6 := f6 _ _ g2_5.1
    have g3_6 := f6 _ _ g3_5.1
    have g4_6 := f6 _ _ g4_5.1
    have g5_6 := f6 _ _ m5
    generalize upd (upd G5 l6 (.lst [])) p _ = G6 at b6 p6 m6 g1_6 g2_6 g3_6 g4_6 g5_6 ⊢
    clear f6
    have hl : ∀ l ∈ [l1, l2, l3, l4, l5, l6], H l = none ∧ G6 l = some (.lst []) := fun l hm => by
      simp only [List.mem_cons, List.not_mem_nil, or_false] at hm
      rcases hm with rfl | rfl | rfl | rfl | rfl | rfl
      · exact ⟨z1, g1_6.1⟩
      · exact ⟨z2, g2_6.1⟩
      · exact ⟨z3, g3_6.1⟩
      · exact ⟨z4, g4_6.1⟩
      · exact ⟨z5, g5_6.1⟩
      · exact ⟨z6, m6⟩
    refine q l1 l2 l3 l4 l5 l6 G6 ⟨dx, p6⟩ hl ?_ b6
    simp only [List.nodup_cons, List.mem_cons, List.not_mem_nil, or_false, not_or, List.nodup_nil, and_true, not_false_eq_true]
    exact ⟨⟨g1_2.2, g1_3.2, g1_4.2, g1_5.2, g1_6.2⟩, ⟨g2_3.2, g2_4.2, g2_5.2, g2_6.2⟩, ⟨g3_4.2, g3_5.2, g3_6.2⟩, ⟨g4_5.2, g4_6.2⟩, g5_6.2⟩
theorem c_items_of (D : Def K mg "items_of" s_items_of ["owner", "kind"]) (T : Tp w K mg cs)  : Cal P w K mg base CX0 1 "items_of" (sp_items_of K cs) := by
  refine D.ok sc_items_of (fun vs H Q E h => ?_) (fun f cdv A outer s H vs Q E hr h => ?_)
  · obtain ⟨p, lf, lt, lm, lv, lg, li, z, rfl, _⟩ := h; rfl
  · obtain ⟨p, lf, lt, lm, lv, lg, li, z, rfl, ⟨dx, hp⟩, q⟩ := h
    refine ⟨_, (pss_cons (ps_if (pt_cmpR op_eq (pv 1) pe_str (by first | rfl | exact nomark _)) (pss_one (ps_ret (pe_fld (pv 0) rfl))) pss_nil)
      (pss_cons (ps_if (pt_cmpR op_eq (pv 1) pe_str (by first | rfl | exact nomark _)) (pss_one (ps_ret (pe_fld (pv 0) rfl))) pss_nil)
      (pss_cons (ps_if (pt_cmpR op_eq (pv 1) pe_str (by first | rfl | exact nomark _)) (pss_one (ps_ret (pe_fld (pv 0) rfl))) pss_nil)
      (pss_cons (ps_if (pt_cmpR op_eq (pv 1) pe_str (by first | rfl | exact nomark _)) (pss_one (ps_ret (pe_fld (pv 0) rfl))) pss_nil)
      (pss_cons (ps_if (pt_cmpR op_eq (pv 1) pe_str (by first | rfl | exact nomark _)) (pss_one (ps_ret (pe_fld (pv 0) rfl))) pss_nil)
      (pss_one (ps_ret (pe_fld (pv 0) rfl)))))))), ?_⟩
    unfold Sto.kind at q
    walk_at "go"
    by_cases h1 : z = "func"
    · refine ifS h1 ?_
      rw [if_pos h1] at q
      exact ⟨_, rfl, p, _, dx, _, _, rfl, hp, T.cl_Store, T.n_Store_functions, lk_Store_functions, q⟩
    refine ifSN h1 ?_
    rw [if_neg h1] at q
    walk_at "go"
    by_cases h2 : z = "table"
    · refine ifS h2 ?_
      rw [if_pos h2] at q
      exact ⟨_, rfl, p, _, dx, _, _, rfl, hp, T.cl_Store, T.n_Store_tables, lk_Store_tables, q⟩
    refine ifSN h2 ?_
    rw [if_neg h2] at q
    walk_at "go"
    by_cases h3 : z = "memory"
    · refine ifS h3 ?_
      rw [if_pos h3] at q
      exact ⟨_, rfl, p, _, dx, _, _, rfl, hp, T.cl_Store, T.n_Store_memories, lk_Store_memories, q⟩
    refine ifSN h3 ?_
    rw [if_neg h3] at q
    walk_at "go"
    by_cases h4 : z = "global"
    · refine ifS h4 ?_
      rw [if_pos h4] at q
      exact ⟨_, rfl, p, _, dx, _, _, rfl, hp, T.cl_Store, T.n_Store_variables, lk_Store_variables, q⟩
    refine ifSN h4 ?_
    rw [if_neg h4] at q
    walk_at "go"
    by_cases h5 : z = "tag"
    · refine ifS h5 ?_
      rw [if_pos h5] at q
      exact ⟨_, rfl, p, _, dx, _, _, rfl, hp, T.cl_Store, T.n_Store_tags, lk_Store_tags, q⟩
    refine ifSN h5 ?_
    rw [if_neg h5] at q
    exact ⟨_, rfl, p, _, dx, _, _, rfl, hp, T.cl_Store, T.n_Store_instances, lk_Store_instances, q⟩
theorem c_host_functions (D : Def K mg "host_functions" s_host_functions ["store"]) (T : Tp w K mg cs)  : Cal P w K mg base CX0 1 "host_functions" (sp_host_functions K cs) := by
  refine D.ok sc_host_functions (fun vs H Q E h => ?_) (fun f cdv A outer s H vs Q E hr h => ?_)
  · obtain ⟨p, lf, lt, lm, lv, lg, li, Fs, ss, rfl, _⟩ := h; rfl
  · obtain ⟨p, lf, lt, lm, lv, lg, li, Fs, ss, rfl, ⟨dx, hp⟩, hf, hh, hl, q⟩ := h
    refine ⟨_, (pss_one (ps_ret (pe_lc (own := [("func", 1), ("row", 2)]) (g := gTup K 2 (gCons (gName 1) (gCons (gName 2) gNil))) (tt := _) (by rfl) sc_host_functions.nd (pi_enum (by rfl) T.m_enumerate (pa_cons (pe_fld (pv 0) rfl) pa_nil)) (blkOk_by (own := [("func", 1), ("row", 2)]) (N := ["store", "func", "row"]) (sc := defScope s_host_functions) (by decide +kernel)) (fun _ _ _ _ _ => (pg_tup (by rfl) (pgs_cons (pg_name (i := 1) sc_host_functions.nd rfl (by first | exact Or.inl rfl | exact Or.inr rfl)) (pgs_cons (pg_name (i := 2) sc_host_functions.nd rfl (by first | exact Or.inl rfl | exact Or.inr rfl)) pgs_nil)))) (fun _ _ _ _ _ => pts_one (pt_cmpR op_eq (pe_ix ix_tupB (pv 2) pe_int (fun _ _ => rfl)) pe_str (by first | rfl | exact nomark _))) (fun _ _ _ _ _ => (pv 1))))), ?_⟩
    refine ⟨_, rfl, p, _, dx, _, _, rfl, hp, T.cl_Store, T.n_Store_functions, lk_Store_functions, ?_⟩
    refine ⟨lf, _, rfl, SqL.of hf, fun D2 hD => ?_⟩
    have hFl := hh.1
    refine ⟨fun i m G => m = Fs.length - i ∧ i ≤ Fs.length ∧ Same H G ∧ ∃ ys, G D2 = some (.lst ys) ∧ ys.length = i, ⟨_, rfl, Nat.zero_le _, Same.new hD, [], upd_same, rfl⟩, ?_⟩
    rintro i m G ⟨rfl, hi, sG, ys, kD, ly⟩
    by_cases hlt : i < Fs.length
    · obtain ⟨s, es⟩ : ∃ s, ss[i]? = some s := ⟨_, List.getElem?_eq_getElem (by omega)⟩
      obtain ⟨v, ev, dv⟩ := hh.2 i s es
      refine .inr ⟨⟨Fs, v, SqL.of (sG _ _ hf), ev⟩, fun G' => i + 1 ≤ Fs.length ∧ Same H G' ∧ ∃ ys, G' D2 = some (.lst ys) ∧ ys.length = i + 1, fun G' z => ⟨Fs.length - (i + 1), by omega, rfl, z.1, z.2.1, z.2.2⟩, ?_⟩
      rintro x G' ⟨t, x1, rfl, ht, rfl, hx1⟩
      have e1 := hx1 Fs (SqL.of (sG _ _ hf))
      rw [ev] at e1
      cases e1
      generalize x2 : upd G t _ = G2
      obtain ⟨s2, k2⟩ := newO ht x2
      clear x2
      refine ⟨t, _, rfl, SqT.of k2, rfl, _, _, rfl, _, _, rfl, rfl, rfl, ?_⟩
      obtain ⟨a, xs, rfl, hs, ha⟩ := dv.vtup
      cases ha with
      | cons h1 ha =>
      cases h1
      have hs2 := Same.ti (K := K) (sG.trans s2) _ _ hs
      refine ⟨_, rfl, a, _, _, _, rfl, rfl, hs2, atI_nat (j := 0) rfl, ?_⟩
      walk_at "go"
      have kD2 := s2 _ _ kD
      refine ⟨ys, kD2, small64' (by omega), by omega, fun b o eb => ?_, ys ++ [_], upd_same, by rw [List.length_append, ly]; rfl⟩
      have nb : b ≠ D2 := fun z => by rw [z, hD] at eb; cases eb
      rw [upd_ne nb]; exact s2 _ _ (sG _ _ eb)
    · exact .inl ⟨⟨Fs, SqL.of (sG _ _ hf), by omega⟩, q D2 ys G sG kD (by omega)⟩
theorem c_check_signature (D : Def K mg "check_signature" s_check_signature ["params", "results"]) (T : Tp w K mg cs)  : Cal P w K mg base (L2.CX P w) 3 "check_signature" (sp_check_signature K cs) := by
  refine D.okX sc_check_signature (fun vs H Q E h => ?_) (fun f cdv A outer s H vs Q E hr h => ?_)
  · obtain ⟨p, r, ps, rs, rfl, _⟩ := h; rfl
  · obtain ⟨p, r, ps, rs, rfl, hp, hr2, lp, lr, q⟩ := h
    refine ⟨_, (pss_one (ps_if (pt_cmpR op_gt (pe_callB (call_max2 rfl) (by rfl) T.m_max (by decide +kernel) (pa_cons (pe_callB call_len_seq (by rfl) T.m_len PySem.boot_len (pa_cons (pv 0) pa_nil)) (pa_cons (pe_callB call_len_seq (by rfl) T.m_len PySem.boot_len (pa_cons (pv 1) pa_nil)) pa_nil))) (pe_gint (by rfl) T.i_MOST_KINDS) (by first | rfl | exact nomark _)) (pss_one (ps_raise rfl (takes_of rfl rfl rfl rfl) (pmk_oex T.e_LimitReached.T T.iC_LimitReached T.tI_LimitReached (in_LimitReached T) (hr.mono (by decide)) T.b_LimitReached .nil pass0 (by rfl) T.e_LimitReached.g (pa_cons pe_str pa_nil)))) pss_nil)), ?_⟩
    walk_at "go"
    refine ite2 (fun c => absurd (of_decide_eq_true c) (by split <;> omega)) (fun _ => ?_)
    walk_at "go"
    exact q
theorem c_add_host (D : Def K mg "add_host" s_add_host ["store", "params", "results"]) (T : Tp w K mg cs) (c_check_signature : Cal P w K mg base (L2.CX P w) 3 "check_signature" (sp_check_signature K cs)) (c_host_functions : Cal P w K mg base CX0 1 "host_functions" (sp_host_functions K cs)) : Cal P w K mg base (L2.CX P w) 4 "add_host" (sp_add_host K cs) := by
  refine D.okX sc_add_host (fun vs H Q E h => ?_) (fun f cdv A outer s H vs Q E hr h => ?_)
  · obtain ⟨s0, p, r, lf, lt, lm, lv, lg, li, Fs, ss, sh, rfl, _⟩ := h; rfl
  · obtain ⟨s0, p, r, lf, lt, lm, lv, lg, li, Fs, ss, sh, rfl, ⟨dx, hs⟩, hf, hh, hl, dp, dr, ok, q⟩ := h
    refine ⟨_, (pss_cons (ps_expr (pe_cE c_check_signature hr (by decide) (passes_call (takes_of rfl rfl rfl rfl) (fun _ _ _ _ h => h)) (by rfl) (pa_cons (pv 1) (pa_cons (pv 2) pa_nil))))
      (pss_cons (ps_set (i := 3) sc_add_host.nd rfl (by first | exact Or.inl rfl | exact Or.inr rfl) (pe_callB call_len_seq (by rfl) T.m_len PySem.boot_len (pa_cons (pe_c c_host_functions hr (by decide) (by rfl) (pa_cons (pv 0) pa_nil)) pa_nil)))
      (pss_cons (ps_if (pt_cmpR op_ge (pv 3) (pe_gint (by rfl) T.i_MOST_HOSTS) (by first | rfl | exact nomark _)) (pss_one (ps_raise rfl (takes_of rfl rfl rfl rfl) (pmk_oex T.e_LimitReached.T T.iC_LimitReached T.tI_LimitReached (in_LimitReached T) (hr.mono (by decide)) T.b_LimitReached .nil pass0 (by rfl) T.e_LimitReached.g (pa_cons pe_str pa_nil)))) pss_nil)
      (pss_cons (ps_expr (pe_bm PySem.F.plainAttrs_list PySem.F.slot_list_append PySem.F.type_list_append mt_append (pe_fld (pv 0) rfl) (pa_cons (pe_tup (pa_cons pe_str (pa_cons (pv 3) (pa_cons (pe_tup (pa_cons (pv 1) (pa_cons (pv 2) pa_nil))) pa_nil)))) pa_nil)))
      (pss_one (ps_ret (pe_op op_sub (pe_callB call_len_seq (by rfl) T.m_len PySem.boot_len (pa_cons (pe_fld (pv 0) rfl) pa_nil)) pe_int))))))), ?_⟩
    walk_at "go"
    obtain ⟨p', ps, ep, hps, _⟩ := dp.vtup
    cases ep
    obtain ⟨r', rs, er, hrs, _⟩ := dr.vtup
    cases er
    have lp : ps.length ≤ 16 := by have := DtA.len ‹DtA K H ps _›; rw [List.length_map] at this; have := ok.2.2.1; omega
    have lr : rs.length ≤ 16 := by have := DtA.len ‹DtA K H rs _›; rw [List.length_map] at this; have := ok.2.2.2; omega
    refine ⟨p, r, ps, rs, rfl, hps, hrs, lp, lr, ?_⟩
    walk_at "go"
    refine ⟨s0, lf, lt, lm, lv, lg, li, Fs, ss, rfl, ⟨dx, hs⟩, hf, hh, by omega, fun D xs H1 s1 k1 lx => ?_⟩
    walk_at "go"
    refine ⟨D, _, rfl, .inl (SqL.of k1), ?_⟩
    rw [lx]
    walk_at "go"
    refine ite2 (fun c => absurd (of_decide_eq_true c) (by omega)) (fun _ => ?_)
    walk_at "go"
    refine ⟨s0, _, dx, _, _, rfl, s1 _ _ hs, T.cl_Store, T.n_Store_functions, lk_Store_functions, .inl ⟨rfl, _, SqL.of (s1 _ _ hf)⟩, ?_⟩
    walk_at "go"
    intro t ht
    generalize e2 : upd H1 t _ = H2
    obtain ⟨s2, dt⟩ := newT (K := K) ht e2 (.cons (dp.same s1) (.cons (dr.same s1) .nil))
    clear e2
    walk_at "go"
    intro F hF
    generalize e3 : upd H2 F _ = H3
    obtain ⟨s3, dF⟩ := newT (K := K) hF e3 (.cons (.str _) (.cons (.int _) (.cons dt .nil)))
    clear e3
    have hf3 := s3 _ _ (s2 _ _ (s1 _ _ hf))
    have hFl := hh.1
    refine ⟨_, _, _, rfl, rfl, hf3, small64' (by omega), ?_⟩
    generalize x4 : upd H3 lf _ = H4
    have b4 : SameBut [lf] H H4 := by subst x4; exact (Same.but (s1.trans (s2.trans s3))).upd (List.mem_singleton.mpr rfl)
    have k4 : H4 lf = some (.lst (Fs ++ [.ref F])) := by subst x4; exact upd_same
    have t34 : Ti K H3 H4 := by subst x4; exact Ti.putL hf3
    clear x4
    walk_at "go"
    have ks := b4 _ _ (fun z => ne_lst hs hf (fun _ z => nomatch z) (List.mem_singleton.mp z)) hs
    refine ⟨s0, _, dx, _, _, rfl, ks, T.cl_Store, T.n_Store_functions, lk_Store_functions, ?_⟩
    refine ⟨lf, _, rfl, .inl (SqL.of k4), ?_⟩
    rw [List.length_append, hFl]
    walk_at "go"
    show Q (.int (((ss.length + 1 : Nat) : Int) - 1)) H4
    rw [show ((ss.length + 1 : Nat) : Int) - 1 = (ss.length : Int) by omega]
    exact q (.ref F) H4 b4 k4 ((hh.ti (Same.ti (s1.trans (s2.trans s3)) |>.trans t34)).snoc (dF.ti t34))
theorem c_size_fits (D : Def K mg "size_fits" s_size_fits ["size", "most", "limit"]) (T : Tp w K mg cs)  : Cal P w K mg base CX0 1 "size_fits" (sp_size_fits K cs) := by
  refine D.ok sc_size_fits (fun vs H Q E h => ?_) (fun f cdv A outer s H vs Q E hr h => ?_)
  · obtain ⟨size, most, least, L, g, rfl, _⟩ := h; rfl
  · obtain ⟨size, most, least, L, g, rfl, hL, q⟩ := h
    refine ⟨_, (pss_cons (ps_asg (pv 2) (pg_tup (by rfl) (pgs_cons (pg_name (i := 3) sc_size_fits.nd rfl (by first | exact Or.inl rfl | exact Or.inr rfl)) (pgs_cons (pg_name (i := 4) sc_size_fits.nd rfl (by first | exact Or.inl rfl | exact Or.inr rfl)) pgs_nil))))
      (pss_one (ps_ret (pe_and (pe_cmpR op_ge (pv 0) (pv 3) (by first | rfl | exact nomark _)) (pe_one (pe_or (pe_cmpR op_isN (pv 4) pe_non (by first | rfl | exact nomark _)) (pe_one (pe_cmpR op_le (pv 1) (pv 4) (by first | rfl | exact nomark _))))))))), ?_⟩
    refine ⟨_, rfl, L, _, rfl, hL, rfl, ?_⟩
    walk_at "go"
    cases g with
    | none =>
      unfold Lim.fits at q
      refine ite2 (fun c => ?_) (fun c => ?_)
      · rw [c] at q
        walk_at "go"
        exact q
      · rw [Bool.eq_false_iff.mpr c] at q
        exact q
    | some n =>
      unfold Lim.fits at q
      refine ite2 (fun c => ?_) (fun c => ?_)
      · rw [c] at q
        walk_at "go"
        exact q
      · rw [Bool.eq_false_iff.mpr c] at q
        exact q
theorem c_Module___init__ (D : DefK K (Cs.C_Module cs) "Module.__init__" s_Module___init__ (kws_Module cs)) (T : Tp w K mg cs)  : CalK P w K mg base CX0 (Cs.C_Module cs) 1 (sp_Module___init__ K cs) ["signatures", "imports"] (fun vs zs => vs ++ (zs ++ (ms_Module cs).map (·.2))) := by
  refine D.ok sc_Module___init__ ["signatures", "imports"] (ms_Module cs) (List.cons_ne_nil _ _) (sub_Module cs) chain_Module (fun vs H Q E h => ?_) (fun f cdv A outer s H vs Q E hr h => ?_)
  · obtain ⟨p, dx, x0, x1, rfl, _⟩ := h; rfl
  · obtain ⟨p, dx, x0, x1, rfl, hp, q⟩ := h
    refine ⟨_, (pss_cons (ps_fld (pv 0) (pv 1) rfl)
      (pss_cons (ps_fld (pv 0) (pv 2) rfl)
      (pss_cons (ps_fld (pv 0) (pv 3) rfl)
      (pss_cons (ps_fld (pv 0) (pv 4) rfl)
      (pss_cons (ps_fld (pv 0) (pv 5) rfl)
      (pss_cons (ps_fld (pv 0) (pv 6) rfl)
      (pss_cons (ps_fld (pv 0) (pv 7) rfl)
      (pss_cons (ps_fld (pv 0) (pv 8) rfl)
      (pss_cons (ps_fld (pv 0) (pv 9) rfl)
      (pss_cons (ps_fld (pv 0) (pv 10) rfl)
      (pss_one (ps_fld (pv 0) (pv 11) rfl)))))))))))), ?_⟩
    refine ⟨_, rfl, _, rfl, p, _, dx, _, rfl, hp, T.cl_Module, T.n_Module_signatures, (by show 0 < 1000; decide), ?_⟩
    rw [in_Module_0 (x0 := x0) (x1 := x1) (x2 := .ref cs.e_Module_functions) (x3 := .ref cs.e_Module_tables) (x4 := .ref cs.e_Module_memories) (x5 := .ref cs.e_Module_tags) (x6 := .ref cs.e_Module_variables) (x7 := .ref cs.e_Module_exports) (x8 := .non) (x9 := .ref cs.e_Module_table_segments) (x10 := .ref cs.e_Module_memory_segments)]
    refine ⟨_, rfl, _, rfl, p, _, dx, _, rfl, upd_same, T.cl_Module, T.n_Module_imports, (by show 1 < 1000; decide), ?_⟩
    rw [in_Module_1 (x0 := x0) (x1 := x1) (x2 := .ref cs.e_Module_functions) (x3 := .ref cs.e_Module_tables) (x4 := .ref cs.e_Module_memories) (x5 := .ref cs.e_Module_tags) (x6 := .ref cs.e_Module_variables) (x7 := .ref cs.e_Module_exports) (x8 := .non) (x9 := .ref cs.e_Module_table_segments) (x10 := .ref cs.e_Module_memory_segments)]
    refine ⟨_, rfl, _, rfl, p, _, dx, _, rfl, upd_same, T.cl_Module, T.n_Module_functions, (by show 2 < 1000; decide), ?_⟩
    rw [in_Module_2 (x0 := x0) (x1 := x1) (x2 := .ref cs.e_Module_functions) (x3 := .ref cs.e_Module_tables) (x4 := .ref cs.e_Module_memories) (x5 := .ref cs.e_Module_tags) (x6 := .ref cs.e_Module_variables) (x7 := .ref cs.e_Module_exports) (x8 := .non) (x9 := .ref cs.e_Module_table_segments) (x10 := .ref cs.e_Module_memory_segments)]
    refine ⟨_, rfl, _, rfl, p, _, dx, _, rfl, upd_same, T.cl_Module, T.n_Module_tables, (by show 3 < 1000; decide), ?_⟩
    rw [in_Module_3 (x0 := x0) (x1 := x1) (x2 := .ref cs.e_Module_functions) (x3 := .ref cs.e_Module_tables) (x4 := .ref cs.e_Module_memories) (x5 := .ref cs.e_Module_tags) (x6 := .ref cs.e_Module_variables) (x7 := .ref cs.e_Module_exports) (x8 := .non) (x9 := .ref cs.e_Module_table_segments) (x10 := .ref cs.e_Module_memory_segments)]
    refine ⟨_, rfl, _, rfl, p, _, dx, _, rfl, upd_same, T.cl_Module, T.n_Module_memories, (by show 4 < 1000; decide), ?_⟩
    rw [in_Module_4 (x0 := x0) (x1 := x1) (x2 := .ref cs.e_Module_functions) (x3 := .ref cs.e_Module_tables) (x4 := .ref cs.e_Module_memories) (x5 := .ref cs.e_Module_tags) (x6 := .ref cs.e_Module_variables) (x7 := .ref cs.e_Module_exports) (x8 := .non) (x9 := .ref cs.e_Module_table_segments) (x10 := .ref cs.e_Module_memory_segments)]
    refine ⟨_, rfl, _, rfl, p, _, dx, _, rfl, upd_same, T.cl_Module, T.n_Module_tags, (by show 5 < 1000; decide), ?_⟩
    rw [in_Module_5 (x0 := x0) (x1 := x1) (x2 := .ref cs.e_Module_functions) (x3 := .ref cs.e_Module_tables) (x4 := .ref cs.e_Module_memories) (x5 := .ref cs.e_Module_tags) (x6 := .ref cs.e_Module_variables) (x7 := .ref cs.e_Module_exports) (x8 := .non) (x9 := .ref cs.e_Module_table_segments) (x10 := .ref cs.e_Module_memory_segments)]
    refine ⟨_, rfl, _, rfl, p, _, dx, _, rfl, upd_same, T.cl_Module, T.n_Module_variables, (by show 6 < 1000; decide), ?_⟩
    rw [in_Module_6 (x0 := x0) (x1 := x1) (x2 := .ref cs.e_Module_functions) (x3 := .ref cs.e_Module_tables) (x4 := .ref cs.e_Module_memories) (x5 := .ref cs.e_Module_tags) (x6 := .ref cs.e_Module_variables) (x7 := .ref cs.e_Module_exports) (x8 := .non) (x9 := .ref cs.e_Module_table_segments) (x10 := .ref cs.e_Module_memory_segments)]
    refine ⟨_, rfl, _, rfl, p, _, dx, _, rfl, upd_same, T.cl_Module, T.n_Module_exports, (by show 7 < 1000; decide), ?_⟩
    rw [in_Module_7 (x0 := x0) (x1 := x1) (x2 := .ref cs.e_Module_functions) (x3 := .ref cs.e_Module_tables) (x4 := .ref cs.e_Module_memories) (x5 := .ref cs.e_Module_tags) (x6 := .ref cs.e_Module_variables) (x7 := .ref cs.e_Module_exports) (x8 := .non) (x9 := .ref cs.e_Module_table_segments) (x10 := .ref cs.e_Module_memory_segments)]
    refine ⟨_, rfl, _, rfl, p, _, dx, _, rfl, upd_same, T.cl_Module, T.n_Module_start, (by show 8 < 1000; decide), ?_⟩
    rw [in_Module_8 (x0 := x0) (x1 := x1) (x2 := .ref cs.e_Module_functions) (x3 := .ref cs.e_Module_tables) (x4 := .ref cs.e_Module_memories) (x5 := .ref cs.e_Module_tags) (x6 := .ref cs.e_Module_variables) (x7 := .ref cs.e_Module_exports) (x8 := .non) (x9 := .ref cs.e_Module_table_segments) (x10 := .ref cs.e_Module_memory_segments)]
    refine ⟨_, rfl, _, rfl, p, _, dx, _, rfl, upd_same, T.cl_Module, T.n_Module_table_segments, (by show 9 < 1000; decide), ?_⟩
    rw [in_Module_9 (x0 := x0) (x1 := x1) (x2 := .ref cs.e_Module_functions) (x3 := .ref cs.e_Module_tables) (x4 := .ref cs.e_Module_memories) (x5 := .ref cs.e_Module_tags) (x6 := .ref cs.e_Module_variables) (x7 := .ref cs.e_Module_exports) (x8 := .non) (x9 := .ref cs.e_Module_table_segments) (x10 := .ref cs.e_Module_memory_segments)]
    refine ⟨_, rfl, _, rfl, p, _, dx, _, rfl, upd_same, T.cl_Module, T.n_Module_memory_segments, (by show 10 < 1000; decide), ?_⟩
    rw [in_Module_10 (x0 := x0) (x1 := x1) (x2 := .ref cs.e_Module_functions) (x3 := .ref cs.e_Module_tables) (x4 := .ref cs.e_Module_memories) (x5 := .ref cs.e_Module_tags) (x6 := .ref cs.e_Module_variables) (x7 := .ref cs.e_Module_exports) (x8 := .non) (x9 := .ref cs.e_Module_table_segments) (x10 := .ref cs.e_Module_memory_segments)]
    have mm : p ∈ [p] := List.mem_singleton.mpr rfl
    exact q _ ⟨dx, _, _, _, _, _, _, _, _, _, upd_same⟩ ((((((((((((SameBut.refl _).upd mm).upd mm).upd mm).upd mm).upd mm).upd mm).upd mm).upd mm).upd mm).upd mm).upd mm)
theorem c_item_fits (D : Def K mg "item_fits" s_item_fits ["store", "module", "row", "number"]) (T : Tp w K mg cs) (c_size_fits : Cal P w K mg base CX0 1 "size_fits" (sp_size_fits K cs)) (c_items_of : Cal P w K mg base CX0 1 "items_of" (sp_items_of K cs)) : Cal P w K mg base CX0 2 "item_fits" (sp_item_fits K cs) := by
  refine D.ok sc_item_fits (fun vs H Q E h => ?_) (fun f cdv A outer s H vs Q E hr h => ?_)
  · obtain ⟨st, mo, row, sg, x1, I, ss, r, i, im, rfl, _⟩ := h; rfl
  · obtain ⟨st, mo, row, sg, x1, I, ss, r, i, im, rfl, ⟨lf, lt, lm, lv, lg, li, Fs, Ts, Ms, Vs, Gs, ⟨dx, hst⟩, kf, hF, kg, hG, kt, lenT, hT, km, lenM, hM, kv, lenV, hV, ki⟩, hok, ⟨dm, m2, m3, m4, m5, m6, m7, m8, m9, m10, hmo⟩, hsg, hss, hrow, hw, him, q⟩ := h
    refine ⟨_, (pss_cons (ps_asg (pe_slice sl_tup (pv 2) (po_some pe_int) po_none) (pg_tup (by rfl) (pgs_cons (pg_name (i := 4) sc_item_fits.nd rfl (by first | exact Or.inl rfl | exact Or.inr rfl)) (pgs_cons (pg_name (i := 5) sc_item_fits.nd rfl (by first | exact Or.inl rfl | exact Or.inr rfl)) pgs_nil))))
      (pss_cons (ps_set (i := 6) sc_item_fits.nd rfl (by first | exact Or.inl rfl | exact Or.inr rfl) (pe_ix ix_list (pe_c c_items_of hr (by decide) (by rfl) (pa_cons (pv 0) (pa_cons (pv 4) pa_nil))) (pv 3) (fun _ _ => rfl)))
      (pss_cons (ps_if (pt_cmpR op_eq (pv 4) pe_str (by first | rfl | exact nomark _)) (pss_one (ps_ret (pe_cmpR (op_eqD (hu64 hr)) (pe_ix ix_tup (pv 6) (pe_un un_neg pe_int) (fun _ _ => rfl)) (pe_ix ix_tup (pe_fld (pv 1) rfl) (pv 5) (fun _ _ => rfl)) (by first | rfl | exact nomark _)))) pss_nil)
      (pss_cons (ps_if (pt_cmpR op_eq (pv 4) pe_str (by first | rfl | exact nomark _)) (pss_one (ps_ret (pe_cmpR (op_eqD (hu64 hr)) (pv 6) (pe_ix ix_tup (pe_fld (pv 1) rfl) (pv 5) (fun _ _ => rfl)) (by first | rfl | exact nomark _)))) pss_nil)
      (pss_cons (ps_if (pt_cmpR op_eq (pv 4) pe_str (by first | rfl | exact nomark _)) (pss_one (ps_ret (pe_cmpR (op_eqD (hu64 hr)) (pe_tup (pa_cons (pe_fld (pv 6) rfl) (pa_cons (pe_fld (pv 6) rfl) pa_nil))) (pv 5) (by first | rfl | exact nomark _)))) pss_nil)
      (pss_cons (ps_if (pt_cmpR op_eq (pv 4) pe_str (by first | rfl | exact nomark _)) (pss_one (ps_ret (pe_c c_size_fits hr (by decide) (by rfl) (pa_cons (pe_callB call_len_seq (by rfl) T.m_len PySem.boot_len (pa_cons (pe_fld (pv 6) rfl) pa_nil)) (pa_cons (pe_fld (pv 6) rfl) (pa_cons (pv 5) pa_nil)))))) pss_nil)
      (pss_one (ps_ret (pe_c c_size_fits hr (by decide) (by rfl) (pa_cons (pe_fld (pv 6) rfl) (pa_cons (pe_fld (pv 6) rfl) (pa_cons (pv 5) pa_nil)))))))))))), ?_⟩
    obtain ⟨row', v1, v2, v3, wv, er, hr4, _, _, j3, j4⟩ := Dt.four hrow
    cases er
    cases j3.vstr
    refine ⟨_, rfl, _, rfl, row, _, rfl, hr4, (by show ¬ (HT.sIx 4 0 (some 2) = 0 ∧ HT.sIx 4 4 none = 4); decide), fun p1 hp1 => ?_⟩
    generalize e1 : upd H p1 _ = H1
    obtain ⟨s1, d1⟩ := newT (K := K) (xs := [.str r.kd, wv]) hp1 e1 (.cons (.str _) (.cons j4 .nil))
    have k1 : H1 p1 = some (.tup [.str r.kd, wv]) := by subst e1; exact upd_same
    clear e1
    have h2 := j4.same s1
    refine ⟨p1, _, rfl, SqT.of k1, rfl, ?_⟩
    walk_at "go"
    have hst1 := s1 _ _ hst
    have hmo1 := s1 _ _ hmo
    have hsg1 := hsg.same s1
    refine ⟨st, lf, lt, lm, lv, lg, li, r.kd, rfl, ⟨dx, hst1⟩, ?_⟩
    rcases hw with ⟨hk, k, s, ew, ek⟩ | ⟨hk, z, b, ew, oz⟩ | ⟨hk, l, g, ew⟩
    · rw [ew] at h2 q
      cases h2.vint
      have osk : OkS s := hss s (List.mem_of_getElem? ek)
      rcases hk with hk | hk
      · rw [hk] at him ⊢
        rw [show Its.all I "func" = I.f.map .sh from if_pos rfl, List.getElem?_map] at him
        obtain ⟨s', es⟩ : ∃ s', I.f[i]? = some s' := by
          cases e : I.f[i]? with
          | none => rw [e] at him; cases him
          | some s' => exact ⟨s', rfl⟩
        rw [es] at him
        cases him
        obtain ⟨F, eF, dF⟩ := hF.2 i s' es
        walk_at "go"
        rw [show Sto.kind lf lt lm lv lg li "func" = lf from if_pos rfl]
        refine ⟨_, _, _, _, rfl, rfl, SqL.of (s1 _ _ kf), atI_nat eF, ?_⟩
        walk_at "go"
        obtain ⟨F', x1', x2', x3', e', hF', _, _, dS⟩ := Dt.three (dF.same s1)
        cases e'
        refine ⟨F', _, _, _, rfl, rfl, hF', rfl, ?_⟩
        walk_at "go"
        refine ⟨mo, _, dm, _, _, rfl, hmo1, T.cl_Module, T.n_Module_signatures, lk_Module_signatures, ?_⟩
        walk_at "go"
        refine ix_D (k := k) hsg1 (by rw [List.getElem?_map, ek]; rfl) fun y hy => ?_
        refine eq_D dS hy (dat_shaped (hok.1 s' (List.mem_of_getElem? es))) (dat_shaped osk) ?_
        rw [eqv_dat]
        have := q _ s1
        rw [show (Im.sh s').fits ss (.sg k) = decide (s' = s) by show decide (some s' = ss[k]?) = _; rw [ek, Bool.eq_iff_iff]; simp] at this
        exact this
      · rw [hk] at him ⊢
        rw [show Its.all I "tag" = I.g.map .sh by unfold Its.all; rw [if_neg (by decide), if_neg (by decide), if_neg (by decide), if_neg (by decide)], List.getElem?_map] at him
        obtain ⟨s', es⟩ : ∃ s', I.g[i]? = some s' := by
          cases e : I.g[i]? with
          | none => rw [e] at him; cases him
          | some s' => exact ⟨s', rfl⟩
        rw [es] at him
        cases him
        obtain ⟨t, et, dt⟩ := hG.get (k := i) (by rw [List.getElem?_map, es]; rfl)
        walk_at "go"
        rw [show Sto.kind lf lt lm lv lg li "tag" = lg by unfold Sto.kind; rw [if_neg (by decide), if_neg (by decide), if_neg (by decide), if_neg (by decide), if_pos rfl]]
        refine ⟨_, _, _, _, rfl, rfl, SqL.of (s1 _ _ kg), atI_nat et, ?_⟩
        walk_at "go"
        refine ⟨mo, _, dm, _, _, rfl, hmo1, T.cl_Module, T.n_Module_signatures, lk_Module_signatures, ?_⟩
        walk_at "go"
        refine ix_D (k := k) hsg1 (by rw [List.getElem?_map, ek]; rfl) fun y hy => ?_
        refine eq_D (dt.same s1) hy (dat_shaped (hok.2.1 s' (List.mem_of_getElem? es))) (dat_shaped osk) ?_
        rw [eqv_dat]
        have := q _ s1
        rw [show (Im.sh s').fits ss (.sg k) = decide (s' = s) by show decide (some s' = ss[k]?) = _; rw [ek, Bool.eq_iff_iff]; simp] at this
        exact this
    · rw [ew] at h2 q
      rw [hk] at him ⊢
      rw [show Its.all I "global" = I.v.map (fun p => .gv p.1 p.2) by unfold Its.all; rw [if_neg (by decide), if_neg (by decide), if_neg (by decide), if_pos rfl], List.getElem?_map] at him
      obtain ⟨⟨z', b'⟩, es⟩ : ∃ p, I.v[i]? = some p := by
        cases e : I.v[i]? with
        | none => rw [e] at him; cases him
        | some s' => exact ⟨s', rfl⟩
      rw [es] at him
      cases him
      obtain ⟨G, eG, ⟨dg, hG⟩⟩ := hV i _ es
      walk_at "go"
      rw [show Sto.kind lf lt lm lv lg li "global" = lv by unfold Sto.kind; rw [if_neg (by decide), if_neg (by decide), if_neg (by decide), if_pos rfl]]
      refine ⟨_, _, _, _, rfl, rfl, SqL.of (s1 _ _ kv), atI_nat eG, ?_⟩
      walk_at "go"
      refine ⟨G, _, dg, _, _, rfl, s1 _ _ hG, T.cl_Global, T.n_Global_kind, lk_Global_kind, ?_⟩
      walk_at "go"
      refine ⟨G, _, dg, _, _, rfl, s1 _ _ hG, T.cl_Global, T.n_Global_mutable, lk_Global_mutable, ?_⟩
      walk_at "go"
      intro p2 hp2
      generalize x2 : upd H1 p2 _ = H2
      obtain ⟨s2, d2⟩ := newT (K := K) hp2 x2 (.cons (.str z') (.cons (.bl b') .nil))
      walk_at "go"
      refine eq_D d2 (h2.same s2) (datKB_shaped (hok.2.2 _ (List.mem_of_getElem? es))) (datKB_shaped oz) ?_
      rw [show PyData.eqv (.tuple [.str z', .bool b']) (Wt.d (.gl z b)) = (decide (z' = z) && decide (b' = b)) from eqv_KB z' z b' b]
      exact q _ (s1.trans s2)
    · rw [ew] at h2 q
      obtain ⟨L, y1, y2, eL, hL, j1, j2⟩ := Dt.two h2
      subst eL
      cases j1.vint
      cases Lim.dv j2
      rcases hk with hk | hk
      · rw [hk] at him ⊢
        rw [show Its.all I "table" = I.t.map (fun p => .pr p.1 p.2) by unfold Its.all; rw [if_neg (by decide), if_pos rfl], List.getElem?_map] at him
        obtain ⟨⟨n, m⟩, es⟩ : ∃ p, I.t[i]? = some p := by
          cases e : I.t[i]? with
          | none => rw [e] at him; cases him
          | some s' => exact ⟨s', rfl⟩
        rw [es] at him
        cases him
        obtain ⟨t, et, ⟨dt, e, xs, ht, ke, hl⟩⟩ := hT i _ es
        walk_at "go"
        rw [show Sto.kind lf lt lm lv lg li "table" = lt by unfold Sto.kind; rw [if_neg (by decide), if_pos rfl]]
        refine ⟨_, _, _, _, rfl, rfl, SqL.of (s1 _ _ kt), atI_nat et, ?_⟩
        walk_at "go"
        refine ⟨t, _, dt, _, _, rfl, s1 _ _ ht, T.cl_Table, T.n_Table_entries, lk_Table_entries, ?_⟩
        refine ⟨e, _, rfl, .inl (SqL.of (s1 _ _ ke)), ?_⟩
        rw [hl]
        refine ⟨_, rfl, t, _, dt, _, _, rfl, s1 _ _ ht, T.cl_Table, T.n_Table_most, lk_Table_most, ?_⟩
        refine ⟨_, rfl, ?_⟩
        exact ⟨n, m, l, L, g, rfl, hL, q _ s1⟩
      · rw [hk] at him ⊢
        rw [show Its.all I "memory" = I.m.map (fun p => .pr p.1 p.2) by unfold Its.all; rw [if_neg (by decide), if_neg (by decide), if_pos rfl], List.getElem?_map] at him
        obtain ⟨⟨n, m⟩, es⟩ : ∃ p, I.m[i]? = some p := by
          cases e : I.m[i]? with
          | none => rw [e] at him; cases him
          | some s' => exact ⟨s', rfl⟩
        rw [es] at him
        cases him
        obtain ⟨t, et, ⟨dt, d, ht⟩⟩ := hM i _ es
        walk_at "go"
        rw [show Sto.kind lf lt lm lv lg li "memory" = lm by unfold Sto.kind; rw [if_neg (by decide), if_neg (by decide), if_pos rfl]]
        refine ⟨_, _, _, _, rfl, rfl, SqL.of (s1 _ _ km), atI_nat et, ?_⟩
        walk_at "go"
        refine ⟨t, _, dt, _, _, rfl, s1 _ _ ht, T.cl_Memory, T.n_Memory_pages, lk_Memory_pages, ?_⟩
        refine ⟨_, rfl, t, _, dt, _, _, rfl, s1 _ _ ht, T.cl_Memory, T.n_Memory_most, lk_Memory_most, ?_⟩
        refine ⟨_, rfl, ?_⟩
        exact ⟨n, m, l, L, g, rfl, hL, q _ s1⟩
end

/-! ### names, wishes, what is found -/
theorem hu65 {A : Around} {k : Nat} (hr : Room k A) : A.units + 65 < cLine := by have := hr.un; omega
theorem hu1 {A : Around} {k : Nat} (hr : Room k A) : A.units + 1 < cLine := by have := hr.un; omega
theorem ix_or2 {X : Cx} : IxR X (fun x y H Q => L2.rIxL X.K x y H Q ∨ L2.rIxT X.K x y H Q) := by
  intro value slice pins s σ H x y v u Q I rx ry h hs
  rcases h with h | h
  · exact ix_list value slice pins s σ H x y v u Q I rx ry h hs
  · exact ix_tup value slice pins s σ H x y v u Q I rx ry h hs
def kdL : List Str := ["func", "tag", "table", "global", "memory"]
structure Nm where
  m : Str
  n : Str
  kd : Str
  i : Nat
def Nm.d (x : Nm) : PyData := .tuple [.str x.m, .str x.n, .str x.kd, .int (x.i : Int)]
theorem eqv_nms : ∀ ns : List Nm, PyData.eqvAll (ns.map Nm.d) (ns.map Nm.d) = true
  | [] => by simp [PyData.eqvAll]
  | x :: r => by
    rw [List.map_cons, PyData.eqvAll, eqv_nms r]
    simp [Nm.d, PyData.eqv, PyData.eqvAll]
def Nm.ok (I : Its) (x : Nm) : Prop := PyData.strOk x.m = true ∧ PyData.strOk x.n = true ∧ x.kd ∈ kdL ∧ x.i < (I.all x.kd).length
def Rw.ok (x : Rw) : Prop := PyData.strOk x.m = true ∧ PyData.strOk x.n = true ∧ x.kd ∈ kdL
def hit (m n : Str) (x : Nm) : Bool := decide (x.m = m) && decide (x.n = n)
def optD : Option Nm → PyData
  | none => .none
  | some x => .tuple [.str x.kd, .int (x.i : Int)]
theorem kd_ok {z : Str} (h : z ∈ kdL) : PyData.strOk z = true := by
  simp only [kdL, List.mem_cons, List.not_mem_nil, or_false] at h
  rcases h with rfl | rfl | rfl | rfl | rfl <;> decide +kernel
theorem pair_shaped {z y : Str} (h : PyData.strOk z = true) (h2 : PyData.strOk y = true) : SeqAt.shaped (.tuple [.str z, .str y]) = true := by
  unfold SeqAt.shaped
  simp [PyData.canLay0, PyData.canLayAll0, PyData.depth, PyData.depthAll, h, h2]
theorem eqv_pair (a b c d : Str) : PyData.eqv (.tuple [.str a, .str b]) (.tuple [.str c, .str d]) = (decide (a = c) && decide (b = d)) := by
  rw [PyData.eqv, PyData.eqvAll, PyData.eqvAll, PyData.eqvAll, PyData.eqv, PyData.eqv, Bool.eq_iff_iff]
  simp
theorem find_at {α : Type} {xs : List α} {p : α → Bool} {i : Nat} {x : α} (hx : xs[i]? = some x) (hp : p x = true) (hn : ∀ j y, j < i → xs[j]? = some y → p y = false) : xs.find? p = some x := by
  induction xs generalizing i with
  | nil => cases hx
  | cons y r ih =>
    cases i with
    | zero => cases hx; rw [List.find?_cons, hp]
    | succ i =>
      rw [List.find?_cons, hn 0 y (by omega) rfl]
      exact ih hx fun j z hj hz => hn (j + 1) z (by omega) hz
theorem find_no {α : Type} {xs : List α} {p : α → Bool} (hn : ∀ (j : Nat) y, j < xs.length → xs[j]? = some y → p y = false) : xs.find? p = none := by
  rw [List.find?_eq_none]
  intro x hx
  obtain ⟨j, hj, e⟩ := List.mem_iff_getElem.mp hx
  rw [hn j x hj (by rw [List.getElem?_eq_getElem hj, e])]
  decide
def sp_lookup (K : PySem.W.Frag) (cs : Cs) : Sp := fun vs H Q _ => ∃ (nl : Addr) (xs : List V) (ns : List Nm) (m n : Str), vs = [.ref nl, .str m, .str n] ∧ SqL K H nl xs ∧ DtA K H xs (ns.map Nm.d) ∧ (∀ x ∈ ns, PyData.strOk x.m = true ∧ PyData.strOk x.n = true) ∧ PyData.strOk m = true ∧ PyData.strOk n = true ∧ ns.length ≤ 1000 ∧
  ∀ v H', Same H H' → Dt K H' v (optD (ns.find? (hit m n))) → Q v H'
/-- what becomes of a module's wishes -/
def lkp (ns : List Nm) (r : Rw) : Option Nm := ns.find? (hit r.m r.n)
def fitR (I : Its) (sg : List Shape) (ns : List Nm) (r : Rw) : Bool := match lkp ns r with
  | some x => decide (x.kd = r.kd) && (match (I.all r.kd)[x.i]? with | some im => im.fits sg r.w | none => false)
  | none => false
def numR (ns : List Nm) (r : Rw) : Int := match lkp ns r with
  | some x => (x.i : Int)
  | none => 0
inductive Oc | miss (k : Nat) | unfit (k : Nat) | found (is : List Int)
def oc (I : Its) (sg : List Shape) (ns : List Nm) (rs : List Rw) : Oc := match rs.findIdx? (fun r => (lkp ns r).isNone) with
  | some k => .miss k
  | none => match rs.findIdx? (fun r => !fitR I sg ns r) with
    | some k => .unfit k
    | none => .found (rs.map (numR ns))
theorem findIdx_at {α : Type} {xs : List α} {p : α → Bool} {i : Nat} {x : α} (hx : xs[i]? = some x) (hp : p x = true) (hn : ∀ j y, j < i → xs[j]? = some y → p y = false) : xs.findIdx? p = some i := by
  have hi : i < xs.length := (List.getElem?_eq_some_iff.mp hx).1
  rw [List.findIdx?_eq_some_iff_getElem]
  refine ⟨hi, ?_, fun j hj => ?_⟩
  · rw [List.getElem?_eq_getElem hi] at hx; cases hx; exact hp
  · rw [hn j _ hj (List.getElem?_eq_getElem (by omega))]; decide
theorem findIdx_no {α : Type} {xs : List α} {p : α → Bool} (hn : ∀ (j : Nat) y, j < xs.length → xs[j]? = some y → p y = false) : xs.findIdx? p = none := by
  rw [List.findIdx?_eq_none_iff]
  intro x hx
  obtain ⟨j, hj, e⟩ := List.mem_iff_getElem.mp hx
  exact hn j x hj (by rw [List.getElem?_eq_getElem hj, e])
/-- an error with a number -/
def Ers (C : Addr) (H : Hp) (E : XK) (k : Nat) : Prop := ∀ d Hf, Same H Hf → Hf d = some (.xd [("index", .int (k : Int))]) → E (.ref C) (some d) Hf
def sp_resolve (K : PySem.W.Frag) (cs : Cs) : Sp := fun vs H Q E => ∃ (st nl mo sg im : Addr) (I : Its) (xs ys : List V) (ns : List Nm) (ss : List Shape) (rs : List Rw), vs = [.ref st, .ref nl, .ref mo] ∧ StoI K cs H st I ∧ ItsOk I ∧
  SqL K H nl xs ∧ DtA K H xs (ns.map Nm.d) ∧ (∀ x ∈ ns, x.ok I) ∧ ns.length ≤ 1000 ∧ Modu cs H mo (.ref sg) (.ref im) ∧ Dt K H (.ref sg) (.tuple (ss.map dat)) ∧ (∀ s ∈ ss, OkS s) ∧ SqT K H im ys ∧ DtA K H ys (rs.map Rw.d) ∧ (∀ r ∈ rs, r.ok ∧ r.w.of ss r.kd) ∧ rs.length ≤ 1000 ∧
  (∀ k, oc I ss ns rs = .miss k → Ers cs.C_ImportMissing H E k) ∧ (∀ k, oc I ss ns rs = .unfit k → Ers cs.C_ImportUnfit H E k) ∧
  (∀ is, oc I ss ns rs = .found is → ∀ t H', Same H H' → H' t = some (.tup (is.map V.int)) → Q (.ref t) H')
def shs : List Shape := [([], []), (["i32"], ["i32"]), (["i64", "i32"], []), (["i32"], [])]
def pD (p : Int × Int) : PyData := .tuple [.int p.1, .int p.2]
def vD (p : Str × Bool) : PyData := .tuple [.str p.1, .bool p.2]
def ItsGood (I : Its) : Prop := I.f.length = 3 ∧ I.g.length = 2 ∧ I.t.length = 2 ∧ I.m.length = 2 ∧ I.v.length = 2 ∧ (∀ s ∈ I.f, s ∈ shs) ∧ (∀ s ∈ I.g, s ∈ shs) ∧ (∀ p ∈ I.t, 0 ≤ p.1 ∧ p.1 ≤ 100) ∧ (∀ p ∈ I.v, p.1 = "i32" ∨ p.1 = "i64")
def ItsD (K : PySem.W.Frag) (H : Hp) (d : Addr) (I : Its) : Prop := ∃ (lf lg lt lm lv : Addr) (fs gs ts ms us : List V), H d = some (.dK [(.inr "func", .ref lf), (.inr "tag", .ref lg), (.inr "table", .ref lt), (.inr "memory", .ref lm), (.inr "global", .ref lv)]) ∧
  H lf = some (.lst fs) ∧ DtA K H fs (I.f.map dat) ∧ H lg = some (.lst gs) ∧ DtA K H gs (I.g.map dat) ∧ H lt = some (.lst ts) ∧ DtA K H ts (I.t.map pD) ∧ H lm = some (.lst ms) ∧ DtA K H ms (I.m.map pD) ∧ H lv = some (.lst us) ∧ DtA K H us (I.v.map vD)
theorem ItsD.mono {K : PySem.W.Frag} {H H' : Hp} {d : Addr} {I : Its} (e : Same H H') (h : ItsD K H d I) : ItsD K H' d I := by
  obtain ⟨lf, lg, lt, lm, lv, fs, gs, ts, ms, us, h0, h1, h2, h3, h4, h5, h6, h7, h8, h9, h10⟩ := h
  exact ⟨lf, lg, lt, lm, lv, fs, gs, ts, ms, us, e _ _ h0, e _ _ h1, h2.same e, e _ _ h3, h4.same e, e _ _ h5, h6.same e, e _ _ h7, h8.same e, e _ _ h9, h10.same e⟩
theorem ItsD.get {K : PySem.W.Frag} {H : Hp} {d : Addr} {I : Its} {kd : Str} (h : ItsD K H d I) (hk : kd ∈ kdL) : ∃ l xs, DGet H d (.str kd) (some (.ref l)) ∧ H l = some (.lst xs) ∧ DtA K H xs ((I.all kd).map Im.d) := by
  obtain ⟨lf, lg, lt, lm, lv, fs, gs, ts, ms, us, h0, h1, h2, h3, h4, h5, h6, h7, h8, h9, h10⟩ := h
  simp only [kdL, List.mem_cons, List.not_mem_nil, or_false] at hk
  rcases hk with rfl | rfl | rfl | rfl | rfl
  · exact ⟨lf, fs, DGet.k (k := (.inr "func" : Key)) h0, h1, by rw [show Its.all I "func" = I.f.map .sh from if_pos rfl, List.map_map]; exact h2⟩
  · exact ⟨lg, gs, DGet.k (k := (.inr "tag" : Key)) h0, h3, by rw [show Its.all I "tag" = I.g.map .sh by unfold Its.all; rw [if_neg (by decide), if_neg (by decide), if_neg (by decide), if_neg (by decide)], List.map_map]; exact h4⟩
  · exact ⟨lt, ts, DGet.k (k := (.inr "table" : Key)) h0, h5, by rw [show Its.all I "table" = I.t.map (fun p => .pr p.1 p.2) by unfold Its.all; rw [if_neg (by decide), if_pos rfl], List.map_map]; exact h6⟩
  · exact ⟨lv, us, DGet.k (k := (.inr "global" : Key)) h0, h9, by rw [show Its.all I "global" = I.v.map (fun p => .gv p.1 p.2) by unfold Its.all; rw [if_neg (by decide), if_neg (by decide), if_neg (by decide), if_pos rfl], List.map_map]; exact h10⟩
  · exact ⟨lm, ms, DGet.k (k := (.inr "memory" : Key)) h0, h7, by rw [show Its.all I "memory" = I.m.map (fun p => .pr p.1 p.2) by unfold Its.all; rw [if_neg (by decide), if_neg (by decide), if_pos rfl], List.map_map]; exact h8⟩
def sp__law_is_int (K : PySem.W.Frag) (cs : Cs) : Sp := fun vs H Q _ => ∃ i : Int, vs = [.int i] ∧ Q (.bl true) H
def sp__law_shapes (K : PySem.W.Frag) (cs : Cs) : Sp := fun vs H Q _ => vs = [] ∧ ∀ v H', Same H H' → Dt K H' v (.tuple (shs.map dat)) → Q v H'
def sp__law_items (K : PySem.W.Frag) (cs : Cs) : Sp := fun vs H Q _ => ∃ (a : Addr) (ts : List Int), vs = [.ref a] ∧ SqL K H a (ts.map V.int) ∧ ∀ d I H', Same H H' → ItsD K H' d I → ItsGood I → Q (.ref d) H'
def sp__law_store (K : PySem.W.Frag) (cs : Cs) : Sp := fun vs H Q _ => ∃ (d : Addr) (I : Its), vs = [.ref d] ∧ ItsD K H d I ∧ ItsGood I ∧ ∀ st H', Same H H' → StoI K cs H' st I → Q (.ref st) H'
def sp__law_pair (K : PySem.W.Frag) (cs : Cs) : Sp := fun vs H Q _ => ∃ (a : Addr) (ts : List Int) (p : Int), vs = [.ref a, .int p] ∧ SqL K H a (ts.map V.int) ∧ (0 ≤ p ∧ p ≤ 900000) ∧ ∀ v m n H', Same H H' → Dt K H' v (.tuple [.str m, .str n]) → PyData.strOk m = true → PyData.strOk n = true → Q v H'
def sp__law_what (K : PySem.W.Frag) (cs : Cs) : Sp := fun vs H Q _ => ∃ (a : Addr) (ts : List Int) (p : Int) (kd : Str) (item : V) (I : Its) (i : Nat) (im : Im), vs = [.ref a, .int p, .str kd, item] ∧ SqL K H a (ts.map V.int) ∧ (0 ≤ p ∧ p ≤ 900000) ∧ kd ∈ kdL ∧ ItsGood I ∧ (I.all kd)[i]? = some im ∧ Dt K H item im.d ∧
  ∀ (v : V) (w : Wt) (H' : Hp), Same H H' → Dt K H' v w.d → w.of shs kd → Q v H'
def sp__law_fits (K : PySem.W.Frag) (cs : Cs) : Sp := fun vs H Q _ => ∃ (kd : Str) (wv item : V) (I : Its) (i : Nat) (im : Im) (w : Wt), vs = [.str kd, wv, item] ∧ kd ∈ kdL ∧ ItsGood I ∧ (I.all kd)[i]? = some im ∧ Dt K H item im.d ∧ Dt K H wv w.d ∧ w.of shs kd ∧ ∀ H', Same H H' → Q (.bl (im.fits shs w)) H'
def sp__law_imports (K : PySem.W.Frag) (cs : Cs) : Sp := fun vs H Q _ => ∃ (a nl d : Addr) (ts : List Int) (xs : List V) (ns : List Nm) (I : Its), vs = [.ref a, .ref nl, .ref d] ∧ SqL K H a (ts.map V.int) ∧ SqL K H nl xs ∧ DtA K H xs (ns.map Nm.d) ∧ (∀ x ∈ ns, x.ok I) ∧ ns.length ≤ 100 ∧ ItsD K H d I ∧ ItsGood I ∧
  ∀ (R : Addr) (ys : List V) (rs : List Rw) (H' : Hp), Same H H' → H' R = some (.lst ys) → DtA K H' ys (rs.map Rw.d) → (∀ r ∈ rs, r.ok ∧ r.w.of shs r.kd) → rs.length ≤ 8 → Q (.ref R) H'
def Due (K : PySem.W.Frag) (H : Hp) (v : V) : Oc → Prop
  | .miss k => ∃ t, v = .ref t ∧ SqT K H t [.str "missing", .int (k : Int)]
  | .unfit k => ∃ t, v = .ref t ∧ SqT K H t [.str "unfit", .int (k : Int)]
  | .found is => ∃ t l, v = .ref t ∧ SqT K H t [.str "found", .ref l] ∧ H l = some (.lst (is.map V.int))
def Ans (K : PySem.W.Frag) (H : Hp) (v : V) : Oc → Prop
  | .miss k => ∃ t l, v = .ref t ∧ SqT K H t [.str "missing", .ref l] ∧ H l = some (.lst [.int (k : Int), .bl true, .bl false])
  | .unfit k => ∃ t l, v = .ref t ∧ SqT K H t [.str "unfit", .ref l] ∧ H l = some (.lst [.int (k : Int), .bl true, .bl false])
  | .found is => ∃ t u, v = .ref t ∧ SqT K H t [.str "found", .ref u] ∧ H u = some (.tup (is.map V.int))
def sp__law_due (K : PySem.W.Frag) (cs : Cs) : Sp := fun vs H Q _ => ∃ (R nl d : Addr) (xs ys : List V) (ns : List Nm) (rs : List Rw) (I : Its), vs = [.ref R, .ref nl, .ref d] ∧ SqL K H R ys ∧ DtA K H ys (rs.map Rw.d) ∧ (∀ r ∈ rs, r.ok ∧ r.w.of shs r.kd) ∧ rs.length ≤ 8 ∧ SqL K H nl xs ∧ DtA K H xs (ns.map Nm.d) ∧ (∀ x ∈ ns, x.ok I) ∧ ns.length ≤ 100 ∧ ItsD K H d I ∧ ItsGood I ∧
  ∀ v H', Same H H' → Due K H' v (oc I shs ns rs) → Q v H'
def sp__law_answer (K : PySem.W.Frag) (cs : Cs) : Sp := fun vs H Q _ => ∃ (st nl mo sg im : Addr) (I : Its) (xs ys : List V) (ns : List Nm) (ss : List Shape) (rs : List Rw), vs = [.ref st, .ref nl, .ref mo] ∧ StoI K cs H st I ∧ ItsOk I ∧
  SqL K H nl xs ∧ DtA K H xs (ns.map Nm.d) ∧ (∀ x ∈ ns, x.ok I) ∧ ns.length ≤ 1000 ∧ Modu cs H mo (.ref sg) (.ref im) ∧ Dt K H (.ref sg) (.tuple (ss.map dat)) ∧ (∀ s ∈ ss, OkS s) ∧ SqT K H im ys ∧ DtA K H ys (rs.map Rw.d) ∧ (∀ r ∈ rs, r.ok ∧ r.w.of ss r.kd) ∧ rs.length ≤ 1000 ∧
  ∀ v H', Same H H' → Ans K H' v (oc I ss ns rs) → Q v H'
def sp_lawK (K : PySem.W.Frag) : Sp := fun vs H Q _ => ∃ (a : Addr) (ns : List Int), vs = [.ref a] ∧ SqL K H a (ns.map V.int) ∧ ns.length ≤ 63 ∧ ∀ H', Q (.bl true) H'
abbrev sp_law (K : PySem.W.Frag) (_ : Cs) : Sp := sp_lawK K
theorem Tab.mono {cs : Cs} {H H' : Hp} {p : Addr} {n m : Int} (e : Same H H') (h : Tab cs H p n m) : Tab cs H' p n m := by
  obtain ⟨dx, d, xs, h1, h2, h3⟩ := h
  exact ⟨dx, d, xs, e _ _ h1, e _ _ h2, h3⟩
theorem Mem.mono {cs : Cs} {H H' : Hp} {p : Addr} {n m : Int} (e : Same H H') (h : Mem cs H p n m) : Mem cs H' p n m := by
  obtain ⟨dx, d, h1⟩ := h
  exact ⟨dx, d, e _ _ h1⟩
theorem Glo.mono {cs : Cs} {H H' : Hp} {p : Addr} {k : Str} {b : Bool} {v : Int} (e : Same H H') (h : Glo cs H p k b v) : Glo cs H' p k b v := by
  obtain ⟨dx, h1⟩ := h
  exact ⟨dx, e _ _ h1⟩
theorem StoI.mono {K : PySem.W.Frag} {cs : Cs} {H H' : Hp} {st : Addr} {I : Its} (e : Same H H') (h : StoI K cs H st I) : StoI K cs H' st I := by
  obtain ⟨lf, lt, lm, lv, lg, li, Fs, Ts, Ms, Vs, Gs, ⟨dx, hst⟩, kf, hF, kg, hG, kt, lenT, hT, km, lenM, hM, kv, lenV, hV, ki⟩ := h
  exact ⟨lf, lt, lm, lv, lg, li, Fs, Ts, Ms, Vs, Gs, ⟨dx, e _ _ hst⟩, e _ _ kf, hF.ti (Same.ti e), e _ _ kg, hG.same e, e _ _ kt, lenT, (fun i p q => by obtain ⟨a, e1, e2⟩ := hT i p q; exact ⟨a, e1, e2.mono e⟩), e _ _ km, lenM,
    (fun i p q => by obtain ⟨a, e1, e2⟩ := hM i p q; exact ⟨a, e1, e2.mono e⟩), e _ _ kv, lenV, (fun i p q => by obtain ⟨a, e1, e2⟩ := hV i p q; exact ⟨a, e1, e2.mono e⟩), e _ _ ki⟩
theorem kdL_cases {kd : Str} (h : kd ∈ kdL) : kd = "func" ∨ kd = "tag" ∨ kd = "table" ∨ kd = "global" ∨ kd = "memory" := by
  simpa only [kdL, List.mem_cons, List.not_mem_nil, or_false] using h
theorem all_f (I : Its) : I.all "func" = I.f.map .sh := if_pos rfl
theorem all_g (I : Its) : I.all "tag" = I.g.map .sh := by unfold Its.all; rw [if_neg (by decide), if_neg (by decide), if_neg (by decide), if_neg (by decide)]
theorem all_t (I : Its) : I.all "table" = I.t.map (fun p => .pr p.1 p.2) := by unfold Its.all; rw [if_neg (by decide), if_pos rfl]
theorem all_m (I : Its) : I.all "memory" = I.m.map (fun p => .pr p.1 p.2) := by unfold Its.all; rw [if_neg (by decide), if_neg (by decide), if_pos rfl]
theorem all_v (I : Its) : I.all "global" = I.v.map (fun p => .gv p.1 p.2) := by unfold Its.all; rw [if_neg (by decide), if_neg (by decide), if_neg (by decide), if_pos rfl]
theorem map_some {α β : Type} {f : α → β} {xs : List α} {i : Nat} {y : β} (h : (xs.map f)[i]? = some y) : ∃ x, x ∈ xs ∧ y = f x := by
  rw [List.getElem?_map] at h
  cases e : xs[i]? with
  | none => rw [e] at h; cases h
  | some x => rw [e] at h; cases h; exact ⟨x, List.mem_of_getElem? e, rfl⟩
theorem all_sh {I : Its} {kd : Str} {i : Nat} {im : Im} (hg : ItsGood I) (h : kd = "func" ∨ kd = "tag") (e : (I.all kd)[i]? = some im) : ∃ s, s ∈ shs ∧ im = .sh s := by
  rcases h with rfl | rfl
  · rw [all_f] at e
    obtain ⟨x, hx, rfl⟩ := map_some e
    exact ⟨x, hg.2.2.2.2.2.1 x hx, rfl⟩
  · rw [all_g] at e
    obtain ⟨x, hx, rfl⟩ := map_some e
    exact ⟨x, hg.2.2.2.2.2.2.1 x hx, rfl⟩
theorem all_pr {I : Its} {kd : Str} {i : Nat} {im : Im} (h : kd = "table" ∨ kd = "memory") (e : (I.all kd)[i]? = some im) : ∃ a b, im = .pr a b := by
  rcases h with rfl | rfl
  · rw [all_t] at e
    obtain ⟨x, hx, rfl⟩ := map_some e
    exact ⟨_, _, rfl⟩
  · rw [all_m] at e
    obtain ⟨x, hx, rfl⟩ := map_some e
    exact ⟨_, _, rfl⟩
theorem all_gv {I : Its} {i : Nat} {im : Im} (hg : ItsGood I) (e : (I.all "global")[i]? = some im) : ∃ z b, im = .gv z b ∧ (z = "i32" ∨ z = "i64") := by
  rw [all_v] at e
  obtain ⟨x, hx, rfl⟩ := map_some e
  exact ⟨_, _, rfl, hg.2.2.2.2.2.2.2.2 x hx⟩
theorem shs_ok : ∀ s ∈ shs, OkS s := by
  intro s hs
  simp only [shs, List.mem_cons, List.not_mem_nil, or_false] at hs
  rcases hs with rfl | rfl | rfl | rfl
  · exact ⟨fun z h => (nomatch h), fun z h => (nomatch h), by decide, by decide⟩
  · exact ⟨fun z h => .inl (by simpa using h), fun z h => .inl (by simpa using h), by decide, by decide⟩
  · exact ⟨fun z h => by simp at h; exact h.symm, fun z h => (nomatch h), by decide, by decide⟩
  · exact ⟨fun z h => .inl (by simpa using h), fun z h => (nomatch h), by decide, by decide⟩
theorem im_count {I : Its} (hg : ItsGood I) {kd : Str} (h : kd ∈ kdL) : 2 ≤ (I.all kd).length ∧ (I.all kd).length ≤ 3 := by
  obtain ⟨g1, g2, g3, g4, g5, _⟩ := hg
  rcases kdL_cases h with rfl | rfl | rfl | rfl | rfl
  · rw [all_f, List.length_map]; omega
  · rw [all_g, List.length_map]; omega
  · rw [all_t, List.length_map]; omega
  · rw [all_v, List.length_map]; omega
  · rw [all_m, List.length_map]; omega
theorem range_filter_yes {p : Nat → Bool} {f : Nat → PyData} {i : Nat} (h : p i = true) : ((List.range (i + 1)).filter p).map f = ((List.range i).filter p).map f ++ [f i] := by
  rw [List.range_succ, List.filter_append, List.filter_cons_of_pos h, List.map_append]; rfl
theorem range_filter_no {p : Nat → Bool} {f : Nat → PyData} {i : Nat} (h : p i = false) : ((List.range (i + 1)).filter p).map f = ((List.range i).filter p).map f := by
  rw [List.range_succ, List.filter_append, List.filter_cons_of_neg (by rw [h]; decide)]; simp
theorem dec_str (a b : Str) : decide (V.str a = V.str b) = decide (a = b) := by rw [Bool.eq_iff_iff]; simp
theorem dec_bl (a b : Bool) : decide (V.bl a = V.bl b) = decide (a = b) := by rw [Bool.eq_iff_iff]; simp
def l4a : List Int := [0, 0, 0, 1]
def l4b : List Int := [0, 0, 2, -1]
def l3 : List Int := [0, 2, 3]
def nnS : List Str := ["", "n", "N-n"]
theorem at_nnS {v : Int} (h0 : 0 ≤ v) (h1 : v < 3) : ∃ z : Str, atI (nnS.map V.str) v = some (.str z) ∧ PyData.strOk z = true := by
  obtain ⟨k, rfl⟩ := Int.eq_ofNat_of_zero_le h0
  match k, h1 with
  | 0, _ => exact ⟨"", rfl, by decide +kernel⟩
  | 1, _ => exact ⟨"n", rfl, by decide +kernel⟩
  | 2, _ => exact ⟨"N-n", rfl, by decide +kernel⟩
  | n + 3, h => exact absurd h (by omega)
def kdK : List Str := ["func", "tag", "table", "global", "memory"]
def kkS : List Str := ["i32", "i64"]
theorem at_kkS {v : Int} (h0 : 0 ≤ v) (h1 : v < 2) : ∃ z : Str, atI (kkS.map V.str) v = some (.str z) ∧ (z = "i32" ∨ z = "i64") := by
  obtain ⟨k, rfl⟩ := Int.eq_ofNat_of_zero_le h0
  match k, h1 with
  | 0, _ => exact ⟨"i32", rfl, .inl rfl⟩
  | 1, _ => exact ⟨"i64", rfl, .inr rfl⟩
  | n + 2, h => exact absurd h (by omega)
theorem at_kdL {v : Int} (h0 : 0 ≤ v) (h1 : v < 5) : ∃ z : Str, atI (kdK.map V.str) v = some (.str z) ∧ z ∈ kdL := by
  obtain ⟨k, rfl⟩ := Int.eq_ofNat_of_zero_le h0
  match k, h1 with
  | 0, _ => exact ⟨"func", rfl, by simp [kdL]⟩
  | 1, _ => exact ⟨"tag", rfl, by simp [kdL]⟩
  | 2, _ => exact ⟨"table", rfl, by simp [kdL]⟩
  | 3, _ => exact ⟨"global", rfl, by simp [kdL]⟩
  | 4, _ => exact ⟨"memory", rfl, by simp [kdL]⟩
  | n + 5, h => exact absurd h (by omega)
/-- a store while it is filled -/
structure StoB (K : PySem.W.Frag) (cs : Cs) (H : Hp) (st lf lt lm lv lg li : Addr) (Fs Gs Ts Ms Us : List V) (I : Its) : Prop where
  sto : Sto cs H st lf lt lm lv lg li
  kf : H lf = some (.lst Fs)
  kg : H lg = some (.lst Gs)
  kt : H lt = some (.lst Ts)
  km : H lm = some (.lst Ms)
  kv : H lv = some (.lst Us)
  ki : H li = some (.lst [])
  F : Hosts K H Fs I.f
  G : DtA K H Gs (I.g.map dat)
  T : Ts.length = I.t.length ∧ ∀ (i : Nat) (p : Int × Int), I.t[i]? = some p → ∃ a : Addr, Ts[i]? = some (.ref a) ∧ ∃ dx e xs, H a = some (.ins cs.C_Table dx (fs_Table (.ref e) (.int p.2))) ∧ H e = some (.lst xs) ∧ (xs.length : Int) = p.1 ∧ e ∉ [lf, lt, lm, lv, lg, li]
  M : Ms.length = I.m.length ∧ ∀ (i : Nat) (p : Int × Int), I.m[i]? = some p → ∃ a : Addr, Ms[i]? = some (.ref a) ∧ Mem cs H a p.1 p.2
  U : Us.length = I.v.length ∧ ∀ (i : Nat) (p : Str × Bool), I.v[i]? = some p → ∃ a : Addr, Us[i]? = some (.ref a) ∧ Glo cs H a p.1 p.2 0
theorem snoc_get {α β : Type} {xs : List α} {ys : List β} {R : α → β → Prop} (l : ys.length = xs.length) (h : ∀ (i : Nat) x, xs[i]? = some x → ∃ y, ys[i]? = some y ∧ R x y) {x0 : α} {y0 : β} (h0 : R x0 y0) : (ys ++ [y0]).length = (xs ++ [x0]).length ∧ ∀ (i : Nat) x, (xs ++ [x0])[i]? = some x → ∃ y, (ys ++ [y0])[i]? = some y ∧ R x y := by
  refine ⟨by rw [List.length_append, List.length_append, l]; rfl, fun i x q => ?_⟩
  rcases Nat.lt_trichotomy i xs.length with z | z | z
  · rw [List.getElem?_append_left z] at q
    obtain ⟨y, e1, e2⟩ := h i x q
    exact ⟨y, by rw [List.getElem?_append_left (by omega)]; exact e1, e2⟩
  · subst z
    rw [List.getElem?_append_right (Nat.le_refl _), Nat.sub_self] at q
    cases q
    exact ⟨y0, by rw [List.getElem?_append_right (by omega), l, Nat.sub_self]; rfl, h0⟩
  · rw [List.getElem?_eq_none (by rw [List.length_append]; show xs.length + 1 ≤ i; omega)] at q
    cases q
theorem StoB.mono {K : PySem.W.Frag} {cs : Cs} {H H' : Hp} {st lf lt lm lv lg li : Addr} {Fs Gs Ts Ms Us : List V} {I : Its} (e : Same H H') (B : StoB K cs H st lf lt lm lv lg li Fs Gs Ts Ms Us I) : StoB K cs H' st lf lt lm lv lg li Fs Gs Ts Ms Us I := by
  obtain ⟨⟨dx, h⟩, kf, kg, kt, km, kv, ki, F, G, ⟨lT, T⟩, ⟨lM, M⟩, lU, U⟩ := B
  exact ⟨⟨dx, e _ _ h⟩, e _ _ kf, e _ _ kg, e _ _ kt, e _ _ km, e _ _ kv, e _ _ ki, F.ti (Same.ti e), G.same e, ⟨lT, fun i p q => by obtain ⟨a, e1, dx, e', xs, h1, h2, h3, h4⟩ := T i p q; exact ⟨a, e1, dx, e', xs, e _ _ h1, e _ _ h2, h3, h4⟩⟩,
    ⟨lM, fun i p q => by obtain ⟨a, e1, e2⟩ := M i p q; exact ⟨a, e1, e2.mono e⟩⟩, lU, fun i p q => by obtain ⟨a, e1, e2⟩ := U i p q; exact ⟨a, e1, e2.mono e⟩⟩
/-- what stays when one of the store's lists changes -/
theorem StoB.fr {K : PySem.W.Frag} {cs : Cs} {H H' : Hp} {st lf lt lm lv lg li : Addr} {Fs Gs Ts Ms Us : List V} {I : Its} (B : StoB K cs H st lf lt lm lv lg li Fs Gs Ts Ms Us I) {l : Addr} {xs : List V} (hl : l ∈ [lf, lt, lm, lv, lg, li]) (kl : H l = some (.lst xs)) (b : SameBut [l] H H') :
    (∀ l' ys, l' ≠ l → H l' = some (.lst ys) → H' l' = some (.lst ys)) ∧ Sto cs H' st lf lt lm lv lg li ∧ Hosts K H' Fs I.f ∧ DtA K H' Gs (I.g.map dat) ∧
    (Ts.length = I.t.length ∧ ∀ (i : Nat) (p : Int × Int), I.t[i]? = some p → ∃ a : Addr, Ts[i]? = some (.ref a) ∧ ∃ dx e xs, H' a = some (.ins cs.C_Table dx (fs_Table (.ref e) (.int p.2))) ∧ H' e = some (.lst xs) ∧ (xs.length : Int) = p.1 ∧ e ∉ [lf, lt, lm, lv, lg, li]) ∧
    (Ms.length = I.m.length ∧ ∀ (i : Nat) (p : Int × Int), I.m[i]? = some p → ∃ a : Addr, Ms[i]? = some (.ref a) ∧ Mem cs H' a p.1 p.2) ∧
    (Us.length = I.v.length ∧ ∀ (i : Nat) (p : Str × Bool), I.v[i]? = some p → ∃ a : Addr, Us[i]? = some (.ref a) ∧ Glo cs H' a p.1 p.2 0) := by
  have fi : ∀ {a C dx : Addr} {fs : List (Str × V)}, H a = some (.ins C dx fs) → H' a = some (.ins C dx fs) := fun {a C dx fs} h => b _ _ (fun z => ne_lst h kl (fun _ z => nomatch z) (List.mem_singleton.mp z)) h
  have t := tiL (K := K) b kl
  obtain ⟨⟨dx, h⟩, kf, kg, kt, km, kv, ki, F, G, ⟨lT, T⟩, ⟨lM, M⟩, lU, U⟩ := B
  refine ⟨fun l' ys n h => b _ _ (fun z => n (List.mem_singleton.mp z)) h, ⟨dx, fi h⟩, F.ti t, G.ti t, ⟨lT, fun i p q => ?_⟩, ⟨lM, fun i p q => ?_⟩, lU, fun i p q => ?_⟩
  · obtain ⟨a, e1, dx, e', xs', h1, h2, h3, h4⟩ := T i p q
    exact ⟨a, e1, dx, e', xs', fi h1, b _ _ (fun z => h4 (by rw [List.mem_singleton.mp z]; exact hl)) h2, h3, h4⟩
  · obtain ⟨a, e1, dx, d, h1⟩ := M i p q
    exact ⟨a, e1, dx, d, fi h1⟩
  · obtain ⟨a, e1, dx, h1⟩ := U i p q
    exact ⟨a, e1, dx, fi h1⟩
theorem optD_lay : ∀ {o : Option Nm}, (∀ x, o = some x → x.kd ∈ kdL) → PyData.canLay0 (optD o) = true ∧ PyData.depth (optD o) ≤ 1
  | none, _ => ⟨rfl, by show 0 ≤ 1; decide⟩
  | some x, h => by
    have := kd_ok (h x rfl)
    refine ⟨by simp [optD, PyData.canLay0, PyData.canLayAll0, this], by simp [optD, PyData.depth, PyData.depthAll]⟩
theorem lay_all {α : Type} {f : α → PyData} : ∀ {xs : List α}, (∀ x ∈ xs, PyData.canLay0 (f x) = true ∧ PyData.depth (f x) ≤ 3) → PyData.canLayAll0 (xs.map f) = true ∧ PyData.depthAll (xs.map f) ≤ 3
  | [], _ => ⟨rfl, by simp [PyData.depthAll]⟩
  | x :: r, h => by
    obtain ⟨a, b⟩ := lay_all fun y hy => h y (List.mem_cons_of_mem _ hy)
    obtain ⟨c, d⟩ := h x (List.mem_cons_self ..)
    refine ⟨by rw [List.map_cons, PyData.canLayAll0, a, c]; rfl, by rw [List.map_cons, PyData.depthAll]; omega⟩
theorem shaped_list {α : Type} {f : α → PyData} {xs : List α} (h : ∀ x ∈ xs, PyData.canLay0 (f x) = true ∧ PyData.depth (f x) ≤ 3) : SeqAt.shaped (.list (xs.map f)) = true := by
  obtain ⟨a, b⟩ := lay_all h
  unfold SeqAt.shaped
  rw [Bool.and_eq_true]
  exact ⟨by simpa only [PyData.canLay0] using a, decide_eq_true (by rw [PyData.depth]; omega)⟩
theorem optD_none : ∀ (o : Option Nm), PyData.eqv (optD o) .none = o.isNone
  | none => by simp [optD, PyData.eqv]
  | some x => by simp [optD, PyData.eqv]
theorem nm_lay {I : Its} {x : Nm} (h : x.ok I) : PyData.canLay0 (Nm.d x) = true ∧ PyData.depth (Nm.d x) ≤ 3 := by
  have h1 := h.1
  have h2 := h.2.1
  have h3 := kd_ok h.2.2.1
  exact ⟨by simp [Nm.d, PyData.canLay0, PyData.canLayAll0, h1, h2, h3], by simp [Nm.d, PyData.depth, PyData.depthAll]⟩
theorem oc_found {I : Its} {sg : List Shape} {ns : List Nm} {rs : List Rw} {is : List Int} (h : oc I sg ns rs = .found is) : is.length = rs.length := by
  unfold oc at h
  cases e : rs.findIdx? (fun r => (lkp ns r).isNone) with
  | some k => rw [e] at h; cases h
  | none =>
    rw [e] at h
    have h : (match rs.findIdx? (fun r => !fitR I sg ns r) with | some k => Oc.unfit k | none => Oc.found (rs.map (numR ns))) = .found is := h
    cases e2 : rs.findIdx? (fun r => !fitR I sg ns r) with
    | some k => rw [e2] at h; cases h
    | none => rw [e2] at h; cases h; exact List.length_map ..
theorem lay_int (k : Int) : SeqAt.shaped (.int k) = true := by simp [SeqAt.shaped, PyData.canLay0, PyData.depth]
theorem eqv_int (k : Int) : PyData.eqv (.int k) (.int k) = true := by simp [PyData.eqv]
theorem lkp_mem {ns : List Nm} {r : Rw} {x : Nm} (h : lkp ns r = some x) : x ∈ ns := List.mem_of_find?_eq_some h
section
variable {P : Program} {w : World} {K : PySem.W.Frag} {mg : Str → Option Value} {base : Heap} {cs : Cs}
theorem c_lookup (D : Def K mg "lookup" s_lookup ["names", "module", "name"]) (T : Tp w K mg cs)  : Cal P w K mg base CX0 1 "lookup" (sp_lookup K cs) := by
  refine D.ok sc_lookup (fun vs H Q E h => ?_) (fun f cdv A outer s H vs Q E hr h => ?_)
  · obtain ⟨nl, xs, ns, m, n, rfl, _⟩ := h; rfl
  · obtain ⟨nl, xs, ns, m, n, rfl, hS, hD, hok, om, on, hl, q⟩ := h
    have lx := hD.len
    rw [List.length_map] at lx
    refine ⟨_, (pss_cons (ps_for PassesOwn.never rfl (pi_list (pv 0)) (pg_name (i := 3) sc_lookup.nd rfl (by first | exact Or.inl rfl | exact Or.inr rfl)) (pss_one (ps_if (pt_cmpR (op_eqD (hu64 hr)) (pe_slice sl_tup (pv 3) po_none (po_some pe_int)) (pe_tup (pa_cons (pv 1) (pa_cons (pv 2) pa_nil))) (by first | rfl | exact nomark _)) (pss_one (ps_ret (pe_slice sl_tup (pv 3) (po_some pe_int) po_none))) pss_nil)))
      (pss_one (ps_ret pe_non))), ?_⟩
    refine ⟨_, rfl, nl, rfl, ⟨_, hS⟩, for_listD (xs := xs) (fun i σ G => Same H G ∧ (∀ j y, j < i → ns[j]? = some y → hit m n y = false) ∧ ∃ o, σ = [some (.ref nl), some (.str m), some (.str n), o]) ⟨Same.refl _, fun j _ hj => absurd hj (by omega), _, rfl⟩ (fun i σ G _ h => h.1.seq hS) ?_ ?_⟩
    · rintro i x _ G hx ⟨sG, hno, o, rfl⟩
      obtain ⟨d, ed, dx⟩ := (hD.same sG).geti hx
      obtain ⟨y, ey, rfl⟩ : ∃ y, ns[i]? = some y ∧ Nm.d y = d := by
        rw [List.getElem?_map] at ed
        cases e : ns[i]? with
        | none => rw [e] at ed; cases ed
        | some y => rw [e] at ed; cases ed; exact ⟨y, rfl, rfl⟩
      have oy := hok y (List.mem_of_getElem? ey)
      obtain ⟨r, v1, v2, v3, v4, er, hr4, j1, j2, j3, j4⟩ := Dt.four dx
      cases er
      refine ⟨_, rfl, _, rfl, r, _, rfl, hr4, (by show ¬ (HT.sIx 4 0 none = 0 ∧ HT.sIx 4 4 (some 2) = 4); decide), fun p1 hp1 => ?_⟩
      generalize e1 : upd G p1 _ = G1
      obtain ⟨s1, d1⟩ := newT (K := K) (xs := [v1, v2]) hp1 e1 (.cons j1 (.cons j2 .nil))
      clear e1
      walk_at "go"
      intro p2 hp2
      generalize e2 : upd G1 p2 _ = G2
      obtain ⟨s2, d2⟩ := newT (K := K) hp2 e2 (.cons (.str m) (.cons (.str n) .nil))
      clear e2
      refine eq_D (d1.same s2) d2 (pair_shaped oy.1 oy.2) (pair_shaped om on) ?_
      rw [eqv_pair]
      walk_at "go"
      refine ite2 (fun c => ?_) (fun c => ?_)
      · refine ⟨_, rfl, _, rfl, r, _, rfl, Same.ti (s1.trans s2) _ _ hr4, (by show ¬ (HT.sIx 4 0 (some 2) = 0 ∧ HT.sIx 4 4 none = 4); decide), fun p3 hp3 => ?_⟩
        generalize e3 : upd G2 p3 _ = G3
        have s12 := s1.trans s2
        obtain ⟨s3, d3⟩ := newT (K := K) (xs := [v3, v4]) hp3 e3 (.cons (j3.same s12) (.cons (j4.same s12) .nil))
        refine q _ _ (sG.trans (s12.trans s3)) ?_
        rw [find_at ey c hno]
        exact d3
      · refine ⟨sG.trans (s1.trans s2), fun j z hj hz => ?_, _, rfl⟩
        rcases Nat.lt_succ_iff_lt_or_eq.mp hj with l | rfl
        · exact hno j z l hz
        · rw [ey] at hz; cases hz; exact Bool.eq_false_iff.mpr c
    · rintro _ G ⟨sG, hno, o, rfl⟩
      refine q _ _ sG ?_
      rw [find_no fun j y hj hy => hno j y (by omega) hy]
      exact .non
theorem c_resolve (D : Def K mg "resolve" s_resolve ["store", "names", "module"]) (T : Tp w K mg cs) (c_lookup : Cal P w K mg base CX0 1 "lookup" (sp_lookup K cs)) (c_item_fits : Cal P w K mg base CX0 2 "item_fits" (sp_item_fits K cs)) : Cal P w K mg base (L2.CX P w) 3 "resolve" (sp_resolve K cs) := by
  refine D.okX sc_resolve (fun vs H Q E h => ?_) (fun f cdv A outer s H vs Q E hr h => ?_)
  · obtain ⟨st, nl, mo, sg, im, I, xs, ys, ns, ss, rs, rfl, _⟩ := h; rfl
  · obtain ⟨st, nl, mo, sg, im, I, xs, ys, ns, ss, rs, rfl, hst, hok, hS, hD, hns, lns, ⟨dm, m2, m3, m4, m5, m6, m7, m8, m9, m10, hmo⟩, hsg, hss, him, hR, hrs, lrs, qm, qu, qf⟩ := h
    have ly := hR.len
    rw [List.length_map] at ly
    refine ⟨_, (pss_cons (ps_setLc (i := 3) (own := [("row", 6)]) (g := gName 6) (tt := tYes) (by rfl) sc_resolve.nd rfl rfl (sw_true rfl rfl rfl (by decide +kernel)) (pi_tup (pe_fld (pv 2) rfl)) (blkOk_by (own := [("row", 6)]) (N := ["store", "names", "module", "found", "numbers", "index", "row", "kind", "number"]) (sc := defScope s_resolve) (by decide +kernel)) (fun _ _ _ _ _ => (pg_name (i := 6) sc_resolve.nd rfl (by first | exact Or.inl rfl | exact Or.inr rfl))) (fun _ _ _ _ _ => pts_nil) (fun _ _ _ _ _ => (pe_c c_lookup hr (by decide) (by rfl) (pa_cons (pv 1) (pa_cons (pe_ix ix_tupB (pv 6) pe_int (fun _ _ => rfl)) (pa_cons (pe_ix ix_tupB (pv 6) pe_int (fun _ _ => rfl)) pa_nil))))))
      (pss_cons (ps_if (pt_cmpR (op_inD (hu65 hr)) pe_non (pv 3) (by first | rfl | exact nomark _)) (pss_one (ps_raise rfl (takes_of rfl rfl rfl rfl) (pmk_oex T.e_ImportMissing.T T.iC_ImportMissing T.tI_ImportMissing (in_ImportMissing T) (hr.mono (by decide)) T.b_ImportMissing .nil pass0 (by rfl) T.e_ImportMissing.g (pa_cons (pe_bm PySem.F.plainAttrs_list PySem.F.slot_list_index PySem.F.type_list_index (mt_indexD (hu65 hr)) (pv 3) (pa_cons pe_non pa_nil)) pa_nil)))) pss_nil)
      (pss_cons (ps_set (i := 4) sc_resolve.nd rfl (by first | exact Or.inl rfl | exact Or.inr rfl) (pe_lst pa_nil))
      (pss_cons (ps_for (passes_of rfl) rfl (pi_enumT (by rfl) T.m_enumerate (pa_cons (pe_fld (pv 2) rfl) pa_nil)) (pg_tup (by rfl) (pgs_cons (pg_name (i := 5) sc_resolve.nd rfl (by first | exact Or.inl rfl | exact Or.inr rfl)) (pgs_cons (pg_name (i := 6) sc_resolve.nd rfl (by first | exact Or.inl rfl | exact Or.inr rfl)) pgs_nil))) (pss_cons (ps_asg (pe_ix ix_list (pv 3) (pv 5) (fun _ _ => rfl)) (pg_tup (by rfl) (pgs_cons (pg_name (i := 7) sc_resolve.nd rfl (by first | exact Or.inl rfl | exact Or.inr rfl)) (pgs_cons (pg_name (i := 8) sc_resolve.nd rfl (by first | exact Or.inl rfl | exact Or.inr rfl)) pgs_nil))))
      (pss_cons (ps_if (PW.pt (pw_or (pt_cmpR op_ne (pv 7) (pe_ix ix_tup (pv 6) pe_int (fun _ _ => rfl)) (by first | rfl | exact nomark _)) (pw_or1 (pt_not (pt_val (pe_c c_item_fits hr (by decide) (by rfl) (pa_cons (pv 0) (pa_cons (pv 2) (pa_cons (pv 6) (pa_cons (pv 8) pa_nil)))))))))) (pss_one (ps_raise rfl (takes_of rfl rfl rfl rfl) (pmk_oex T.e_ImportUnfit.T T.iC_ImportUnfit T.tI_ImportUnfit (in_ImportUnfit T) (hr.mono (by decide)) T.b_ImportUnfit .nil pass0 (by rfl) T.e_ImportUnfit.g (pa_cons (pv 5) pa_nil)))) pss_nil)
      (pss_one (ps_expr (pe_bm PySem.F.plainAttrs_list PySem.F.slot_list_append PySem.F.type_list_append mt_append (pv 4) (pa_cons (pv 8) pa_nil)))))))
      (pss_one (ps_ret (pe_callTy call_tuple_of (by rfl) T.m_tuple (by decide +kernel) (pa_cons (pv 4) pa_nil)))))))), ?_⟩
    refine ⟨_, rfl, mo, _, dm, _, _, rfl, hmo, T.cl_Module, T.n_Module_imports, lk_Module_imports, ?_⟩
    walk_at "go"
    refine ⟨⟨_, him⟩, fun FD hFD => ?_⟩
    refine lcD_tup (xs := ys) (j := 6) (fun i => (rs.take i).map fun r => optD (lkp ns r)) hFD him (by omega) rfl (fun i x G hx sG => ?_) (fun G fs sG kF dF lF => ?_)
    · intro Y N hY hN
      obtain ⟨d, ed, dx⟩ := (hR.same sG).geti hx
      obtain ⟨r, er, rfl⟩ : ∃ r, rs[i]? = some r ∧ Rw.d r = d := by
        rw [List.getElem?_map] at ed
        cases e : rs[i]? with
        | none => rw [e] at ed; cases ed
        | some y => rw [e] at ed; cases ed; exact ⟨y, rfl, rfl⟩
      obtain ⟨t, v1, v2, v3, v4, et, ht4, j1, j2, j3, j4⟩ := Dt.four dx
      cases et
      cases j1.vstr
      cases j2.vstr
      have or := hrs r (List.mem_of_getElem? er)
      walk_at "go"
      refine ⟨nl, xs, ns, r.m, r.n, rfl, sG.seq hS, hD.same sG, fun y hy => ⟨(hns y hy).1, (hns y hy).2.1⟩, or.1.1, or.1.2.1, lns, fun v G2 s2 dv => ?_⟩
      exact hY v G2 _ s2 dv (map_take_snoc _ er)
    have dF : DtA K G fs (rs.map fun r => optD (lkp ns r)) := by
      have z := dF
      simp only [ly, List.take_length] at z
      exact z
    have lay : SeqAt.shaped (.list (rs.map fun r => optD (lkp ns r))) = true := shaped_list fun r _ => by
      obtain ⟨a, b⟩ := optD_lay (o := lkp ns r) fun x hx => (hns x (lkp_mem hx)).2.2.1
      exact ⟨a, by omega⟩
    have lay0 : SeqAt.shaped .none = true := by simp [SeqAt.shaped, PyData.canLay0, PyData.depth]
    walk_at "go"
    refine ⟨.none, _, .non, .lst (SqL.of kF) dF.dp, lay0, lay, ?_⟩
    rw [show (rs.map fun r => optD (lkp ns r)).any (fun z => PyData.eqv z .none) = rs.any (fun r => (lkp ns r).isNone) by rw [List.any_map]; congr 1; funext r; exact optD_none _]
    cases em : rs.findIdx? (fun r => (lkp ns r).isNone) with
    | some k =>
      obtain ⟨hk, hp, hbef⟩ := List.findIdx?_eq_some_iff_getElem.mp em
      rw [show rs.any (fun r => (lkp ns r).isNone) = true from List.any_eq_true.mpr ⟨_, List.getElem_mem hk, hp⟩]
      walk_at "go"
      refine ⟨.inl ⟨rfl, _, SqL.of kF⟩, ?_⟩
      refine ⟨FD, .non, .none, _, k, optD (lkp ns rs[k]), rfl, rfl, .lst (SqL.of kF) dF.dp, .non, lay, lay0, ?_, ?_, fun m z' hm hz => ?_, ?_⟩
      · rw [List.getElem?_map, List.getElem?_eq_getElem hk]; rfl
      · rw [optD_none]; exact hp
      · rw [List.getElem?_map, List.getElem?_eq_getElem (by omega)] at hz
        cases hz
        rw [optD_none]
        exact Bool.eq_false_iff.mpr (hbef m hm)
      walk_at "go"
      exact fly1 fun d Hf s1 e1 => qm k (by unfold oc; rw [em]) d Hf (sG.trans s1) e1
    | none =>
      have hno : ∀ r ∈ rs, (lkp ns r).isNone = false := List.findIdx?_eq_none_iff.mp em
      rw [show rs.any (fun r => (lkp ns r).isNone) = false by rw [List.any_eq_false]; exact fun r hr => by rw [hno r hr]; decide]
      walk_at "go"
      intro N hN
      generalize e1 : upd G N _ = G1
      obtain ⟨s1, kN⟩ := newO hN e1
      clear e1
      have hmo1 := s1 _ _ (sG _ _ hmo)
      refine ⟨_, rfl, mo, _, dm, _, _, rfl, hmo1, T.cl_Module, T.n_Module_imports, lk_Module_imports, ?_⟩
      refine ⟨im, _, rfl, Same.ti (sG.trans s1) _ _ him, for_enT (xs := ys) (fun i σ G' => Same G G' ∧ (∃ ns', G' N = some (.lst (ns'.map V.int)) ∧ ns' = (rs.take i).map (numR ns)) ∧ (∀ j r, j < i → rs[j]? = some r → fitR I ss ns r = true) ∧ ∃ o5 o6 o7 o8, σ = [some (.ref st), some (.ref nl), some (.ref mo), some (.ref FD), some (.ref N), o5, o6, o7, o8])
        ⟨s1, ⟨[], kN, rfl⟩, fun j _ hj => absurd hj (by omega), _, _, _, _, rfl⟩ (fun i σ G' _ h => Same.ti (sG.trans h.1) _ _ him) ?_ ?_⟩
      · rintro i x t _ G' hx ⟨s2, ⟨ns', kN', rfl⟩, hfit, o5, o6, o7, o8, rfl⟩ ht
        have sH := sG.trans s2
        obtain ⟨d, ed, dx⟩ := (hR.same sH).geti hx
        obtain ⟨r, er, rfl⟩ : ∃ r, rs[i]? = some r ∧ Rw.d r = d := by
          rw [List.getElem?_map] at ed
          cases e : rs[i]? with
          | none => rw [e] at ed; cases ed
          | some y => rw [e] at ed; cases ed; exact ⟨y, rfl, rfl⟩
        have hr := List.mem_of_getElem? er
        have hi : i < rs.length := (List.getElem?_eq_some_iff.mp er).1
        obtain ⟨x0, ex0⟩ : ∃ x0, lkp ns r = some x0 := by
          have := hno r hr
          cases e : lkp ns r with
          | none => rw [e] at this; cases this
          | some x0 => exact ⟨x0, rfl⟩
        have ox := hns x0 (lkp_mem ex0)
        rw [Int.zero_add]
        generalize e3 : upd G' t _ = G3
        obtain ⟨s3, kt⟩ := newO ht e3
        clear e3
        refine ⟨t, _, rfl, SqT.of kt, rfl, ?_⟩
        walk_at "go"
        have dF3 := dF.same (s2.trans s3)
        refine ix_Dl (k := i) (SqL.of (s3 _ _ (s2 _ _ kF))) dF3 (by rw [List.getElem?_map, er]; rfl) fun y hy => ?_
        have hy : Dt K G3 y (optD (lkp ns r)) := hy
        rw [ex0] at hy
        obtain ⟨q1, y1, y2, eq1, hq1, j1, j2⟩ := Dt.two hy
        subst eq1
        cases j1.vstr
        cases j2.vint
        refine ⟨q1, _, rfl, hq1, rfl, ?_⟩
        obtain ⟨row, v1, v2, v3, v4, et, ht4, i1, i2, i3, i4⟩ := Dt.four dx
        subst et
        cases i3.vstr
        have ht3 := Same.ti (K := K) s3 _ _ ht4
        have hrow3 := dx.same s3
        have sH3 := sH.trans s3
        walk_at "go"
        by_cases ek : x0.kd = r.kd
        · refine ifNeS ek ?_
          walk_at "go"
          obtain ⟨imx, eim⟩ : ∃ imx, (I.all r.kd)[x0.i]? = some imx := ⟨_, List.getElem?_eq_getElem (by rw [← ek]; exact ox.2.2.2)⟩
          refine ⟨st, mo, row, sg, .ref im, I, ss, r, x0.i, imx, rfl, hst.mono sH3, hok, ⟨dm, m2, m3, m4, m5, m6, m7, m8, m9, m10, sH3 _ _ hmo⟩, hsg.same sH3, hss, hrow3, (hrs r hr).2, eim, fun G4 s4 => ?_⟩
          have ef : fitR I ss ns r = imx.fits ss r.w := by
            unfold fitR
            rw [ex0]
            show (decide (x0.kd = r.kd) && _) = _
            rw [eim, decide_eq_true ek]
            rfl
          rw [← ef]
          cases ev : fitR I ss ns r with
          | false =>
            walk_at "go"
            exact fly1 fun d Hf s5 e5 => qu i (by unfold oc; rw [em]; show (match rs.findIdx? (fun r => !fitR I ss ns r) with | some k => Oc.unfit k | none => Oc.found (rs.map (numR ns))) = _; rw [findIdx_at (p := fun r => !fitR I ss ns r) er (by rw [ev]; rfl) (fun j z hj hz => by rw [hfit j z hj hz]; rfl)]) d Hf (sH3.trans (s4.trans s5)) e5
          | true =>
            walk_at "go"
            have kN4 := s4 _ _ (s3 _ _ kN')
            refine ⟨.inl ⟨rfl, _, SqL.of kN4⟩, ?_⟩
            walk_at "go"
            refine ⟨_, _, _, rfl, rfl, kN4, small64' (by rw [List.length_map, List.length_map, List.length_take]; omega), ?_⟩
            walk_at "go"
            refine ⟨fun b o hb => ?_, ⟨_, upd_same.trans ?_, rfl⟩, fun j z hj hz => ?_, _, _, _, _, rfl⟩
            · rw [upd_ne (ne_of_none hb hN)]
              exact s4 _ _ (s3 _ _ (s2 _ _ hb))
            · rw [map_take_snoc (numR ns) er, List.map_append]
              unfold numR
              rw [ex0]
              rfl
            · rcases Nat.lt_succ_iff_lt_or_eq.mp hj with l | rfl
              · exact hfit j z l hz
              · rw [er] at hz; cases hz; exact ev
        · refine ifNeSN ek ?_
          have ef : fitR I ss ns r = false := by
            unfold fitR
            rw [ex0]
            show (decide (x0.kd = r.kd) && _) = _
            rw [decide_eq_false ek]
            rfl
          walk_at "go"
          exact fly1 fun d Hf s5 e5 => qu i (by unfold oc; rw [em]; show (match rs.findIdx? (fun r => !fitR I ss ns r) with | some k => Oc.unfit k | none => Oc.found (rs.map (numR ns))) = _; rw [findIdx_at (p := fun r => !fitR I ss ns r) er (by rw [ef]; rfl) (fun j z hj hz => by rw [hfit j z hj hz]; rfl)]) d Hf (sH3.trans s5) e5
      · rintro _ G' ⟨s2, ⟨ns', kN', rfl⟩, hfit, o5, o6, o7, o8, rfl⟩
        rw [ly, List.take_length] at kN'
        walk_at "go"
        refine ⟨N, _, rfl, .inl ⟨SqL.of kN', fun t ht => ?_⟩⟩
        have sT : Same G' (upd G' t (.tup ((rs.map (numR ns)).map V.int))) := Same.new ht
        exact qf (rs.map (numR ns)) (by unfold oc; rw [em]; show (match rs.findIdx? (fun r => !fitR I ss ns r) with | some k => Oc.unfit k | none => Oc.found (rs.map (numR ns))) = _; rw [findIdx_no (p := fun r => !fitR I ss ns r) fun j y hj hy => by rw [hfit j y (by omega) hy]; rfl]) t _ (sG.trans (s2.trans sT)) upd_same
theorem c__law_is_int (D : Def K mg "_law_is_int" s__law_is_int ["actual"]) (T : Tp w K mg cs)  : Cal P w K mg base CX0 1 "_law_is_int" (sp__law_is_int K cs) := by
  refine D.ok sc__law_is_int (fun vs H Q E h => ?_) (fun f cdv A outer s H vs Q E hr h => ?_)
  · obtain ⟨i, rfl, _⟩ := h; rfl
  · obtain ⟨i, rfl, q⟩ := h
    refine ⟨_, (pss_one (ps_ret (pe_and (pe_callB call_isi (by rfl) T.m_isinstance (by decide +kernel) (pa_cons (pv 0) (pa_cons (pe_bltn (v := .ty "int") (u := .type "int") (by rfl) T.m_int (by decide +kernel) rfl) pa_nil))) (pe_one (pe_not (pe_callB call_isi (by rfl) T.m_isinstance (by decide +kernel) (pa_cons (pv 0) (pa_cons (pe_bltn (v := .ty "bool") (u := .type "bool") (by rfl) T.m_bool (by decide +kernel) rfl) pa_nil)))))))), ?_⟩
    walk_at "go"
    exact q
theorem c__law_shapes (D : Def K mg "_law_shapes" s__law_shapes []) (T : Tp w K mg cs)  : Cal P w K mg base CX0 1 "_law_shapes" (sp__law_shapes K cs) := by
  refine D.ok sc__law_shapes (fun vs H Q E h => ?_) (fun f cdv A outer s H vs Q E hr h => ?_)
  · obtain ⟨rfl, _⟩ := h; rfl
  · obtain ⟨rfl, q⟩ := h
    refine ⟨_, (pss_one (ps_ret (pe_tup (pa_cons (pe_tup (pa_cons (pe_tup pa_nil) (pa_cons (pe_tup pa_nil) pa_nil))) (pa_cons (pe_tup (pa_cons (pe_tup (pa_cons pe_str pa_nil)) (pa_cons (pe_tup (pa_cons pe_str pa_nil)) pa_nil))) (pa_cons (pe_tup (pa_cons (pe_tup (pa_cons pe_str (pa_cons pe_str pa_nil))) (pa_cons (pe_tup pa_nil) pa_nil))) (pa_cons (pe_tup (pa_cons (pe_tup (pa_cons pe_str pa_nil)) (pa_cons (pe_tup pa_nil) pa_nil))) pa_nil))))))), ?_⟩
    walk_at "go"
    intro p1 hp1
    generalize e1 : upd H p1 _ = H1
    obtain ⟨s1, d1⟩ := newT (K := K) hp1 e1 (ds := []) .nil
    clear e1
    walk_at "go"
    intro p2 hp2
    generalize e2 : upd H1 p2 _ = H2
    obtain ⟨s2, d2⟩ := newT (K := K) hp2 e2 (ds := []) .nil
    clear e2
    walk_at "go"
    intro p3 hp3
    generalize e3 : upd H2 p3 _ = H3
    obtain ⟨s3, d3⟩ := newT (K := K) hp3 e3 (.cons (d1.same s2) (.cons d2 .nil))
    clear e3
    walk_at "go"
    intro p4 hp4
    generalize e4 : upd H3 p4 _ = H4
    obtain ⟨s4, d4⟩ := newT (K := K) hp4 e4 (DtA.strs ["i32"])
    clear e4
    walk_at "go"
    intro p5 hp5
    generalize e5 : upd H4 p5 _ = H5
    obtain ⟨s5, d5⟩ := newT (K := K) hp5 e5 (DtA.strs ["i32"])
    clear e5
    walk_at "go"
    intro p6 hp6
    generalize e6 : upd H5 p6 _ = H6
    obtain ⟨s6, d6⟩ := newT (K := K) hp6 e6 (.cons (d4.same s5) (.cons d5 .nil))
    clear e6
    walk_at "go"
    intro p7 hp7
    generalize e7 : upd H6 p7 _ = H7
    obtain ⟨s7, d7⟩ := newT (K := K) hp7 e7 (DtA.strs ["i64", "i32"])
    clear e7
    walk_at "go"
    intro p8 hp8
    generalize e8 : upd H7 p8 _ = H8
    obtain ⟨s8, d8⟩ := newT (K := K) hp8 e8 (ds := []) .nil
    clear e8
    walk_at "go"
    intro p9 hp9
    generalize e9 : upd H8 p9 _ = H9
    obtain ⟨s9, d9⟩ := newT (K := K) hp9 e9 (.cons (d7.same s8) (.cons d8 .nil))
    clear e9
    walk_at "go"
    intro p10 hp10
    generalize e10 : upd H9 p10 _ = H10
    obtain ⟨s10, d10⟩ := newT (K := K) hp10 e10 (DtA.strs ["i32"])
    clear e10
    walk_at "go"
    intro p11 hp11
    generalize e11 : upd H10 p11 _ = H11
    obtain ⟨s11, d11⟩ := newT (K := K) hp11 e11 (ds := []) .nil
    clear e11
    walk_at "go"
    intro p12 hp12
    generalize e12 : upd H11 p12 _ = H12
    obtain ⟨s12, d12⟩ := newT (K := K) hp12 e12 (.cons (d10.same s11) (.cons d11 .nil))
    clear e12
    walk_at "go"
    intro p13 hp13
    generalize e13 : upd H12 p13 _ = H13
    obtain ⟨s13, d13⟩ := newT (K := K) hp13 e13 (.cons (((((((((d3.same s4).same s5).same s6).same s7).same s8).same s9).same s10).same s11).same s12) (.cons ((((((d6.same s7).same s8).same s9).same s10).same s11).same s12) (.cons (((d9.same s10).same s11).same s12) (.cons d12 .nil))))
    exact q _ _ (s1.trans (s2.trans (s3.trans (s4.trans (s5.trans (s6.trans (s7.trans (s8.trans (s9.trans (s10.trans (s11.trans (s12.trans s13)))))))))))) d13
theorem c__law_pair (D : Def K mg "_law_pair" s__law_pair ["tape", "at"]) (T : Tp w K mg cs) (c__law_draw : Cal P w K mg base CX0 1 "_law_draw" (sp__law_draw K cs)) : Cal P w K mg base CX0 2 "_law_pair" (sp__law_pair K cs) := by
  refine D.ok sc__law_pair (fun vs H Q E h => ?_) (fun f cdv A outer s H vs Q E hr h => ?_)
  · obtain ⟨a, ts, p, rfl, _⟩ := h; rfl
  · obtain ⟨a, ts, p, rfl, hS, ⟨hp0, hp⟩, q⟩ := h
    refine ⟨_, (pss_one (ps_ret (pe_tup (pa_cons (pe_op op_add_str pe_str (pe_ix ix_str pe_str (pe_c c__law_draw hr (by decide) (by rfl) (pa_cons (pv 0) (pa_cons (pv 1) (pa_cons pe_int pa_nil)))) (fun _ _ => rfl))) (pa_cons (pe_ix ix_list (pe_lst (pa_cons pe_str (pa_cons pe_str (pa_cons pe_str pa_nil)))) (pe_c c__law_draw hr (by decide) (by rfl) (pa_cons (pv 0) (pa_cons (pe_op op_add (pv 1) pe_int) (pa_cons pe_int pa_nil)))) (fun _ _ => rfl)) pa_nil))))), ?_⟩
    walk_at "go"
    refine ⟨a, ts, p, 3, rfl, hS, ⟨by omega, by omega⟩, by decide, fun v v0 v1 => ?_⟩
    obtain ⟨c, ec, hc⟩ : ∃ c : Nat, atI (Str.cps "abA").toList v = some c ∧ PyData.strOk (Str.ofString "m" ++ ⟨#[c]⟩) = true := by
      obtain ⟨k, rfl⟩ := Int.eq_ofNat_of_zero_le v0
      match k, v1 with
      | 0, _ => exact ⟨97, rfl, by decide +kernel⟩
      | 1, _ => exact ⟨98, rfl, by decide +kernel⟩
      | 2, _ => exact ⟨65, rfl, by decide +kernel⟩
      | n + 3, h => exact absurd h (by omega)
    refine ⟨_, _, _, rfl, rfl, small64 (by decide +kernel), ec, ?_⟩
    refine ⟨_, _, rfl, rfl, small64 (by show 1 + 1 ≤ 1000000; decide), ?_⟩
    walk_at "go"
    intro e1 h1
    generalize x1 : upd H e1 _ = H1
    obtain ⟨s1, k1⟩ : Same H H1 ∧ H1 e1 = some (.lst (nnS.map V.str)) := by subst x1; exact ⟨Same.new h1, upd_same⟩
    clear x1
    walk_at "go"
    refine ⟨a, ts, p + 1, 3, rfl, s1.seq hS, ⟨by omega, by omega⟩, by decide, fun v2 v20 v21 => ?_⟩
    obtain ⟨z, ez, hz⟩ := at_nnS v20 v21
    refine ⟨e1, _, _, _, rfl, rfl, SqL.of k1, ez, ?_⟩
    walk_at "go"
    intro t ht
    generalize x2 : upd H1 t _ = H2
    obtain ⟨s2, d2⟩ := newT (K := K) ht x2 (.cons (.str _) (.cons (.str z) .nil))
    exact q _ _ _ _ (s1.trans s2) d2 hc hz
theorem c__law_fits (D : Def K mg "_law_fits" s__law_fits ["kind", "what", "item"]) (T : Tp w K mg cs) (c__law_shapes : Cal P w K mg base CX0 1 "_law_shapes" (sp__law_shapes K cs)) : Cal P w K mg base CX0 2 "_law_fits" (sp__law_fits K cs) := by
  refine D.ok sc__law_fits (fun vs H Q E h => ?_) (fun f cdv A outer s H vs Q E hr h => ?_)
  · obtain ⟨kd, wv, item, I, i, im, w, rfl, _⟩ := h; rfl
  · obtain ⟨kd, wv, item, I, i, im, w, rfl, hk, hg, him, hit, hwv, hw, q⟩ := h
    refine ⟨_, (pss_cons (ps_if (PW.pt (pw_or (pt_cmpR op_eq (pv 0) pe_str (by first | rfl | exact nomark _)) (pw_or1 (pt_cmpR op_eq (pv 0) pe_str (by first | rfl | exact nomark _))))) (pss_one (ps_ret (pe_cmpR (op_eqD (hu64 hr)) (pe_ix ix_tup (pe_c0 c__law_shapes hr (by decide) (by rfl)) (pv 1) (fun _ _ => rfl)) (pv 2) (by first | rfl | exact nomark _)))) pss_nil)
      (pss_cons (ps_if (pt_cmpR op_eq (pv 0) pe_str (by first | rfl | exact nomark _)) (pss_one (ps_ret (pe_and (pe_cmpR op_eq (pe_ix ix_tup (pv 1) pe_int (fun _ _ => rfl)) (pe_ix ix_tup (pv 2) pe_int (fun _ _ => rfl)) (by first | rfl | exact nomark _)) (pe_one (pe_cmpR op_eq (pe_ix ix_tup (pv 1) pe_int (fun _ _ => rfl)) (pe_ix ix_tup (pv 2) pe_int (fun _ _ => rfl)) (by first | rfl | exact nomark _)))))) pss_nil)
      (pss_one (ps_ret (pe_and (pe_cmpR op_ge (pe_ix ix_tup (pv 2) pe_int (fun _ _ => rfl)) (pe_ix ix_tup (pv 1) pe_int (fun _ _ => rfl)) (by first | rfl | exact nomark _)) (pe_one (pe_or (pe_cmpR op_isN (pe_ix ix_tup (pv 1) pe_int (fun _ _ => rfl)) pe_non (by first | rfl | exact nomark _)) (pe_one (pe_cmpR op_le (pe_ix ix_tup (pv 2) pe_int (fun _ _ => rfl)) (pe_ix ix_tup (pv 1) pe_int (fun _ _ => rfl)) (by first | rfl | exact nomark _)))))))))), ?_⟩
    rcases hw with ⟨hk2, k, s, rfl, ek⟩ | ⟨rfl, y, c, rfl, oy⟩ | ⟨hk2, l, g, rfl⟩
    · obtain ⟨s', hs', rfl⟩ := all_sh hg hk2 him
      cases hwv.vint
      rcases hk2 with rfl | rfl
      all_goals
        walk_at "go"
        intro v H1 s1 dv
        walk_at "go"
        refine ix_D (k := k) dv (by rw [List.getElem?_map, ek]; rfl) fun y hy => ?_
        walk_at "go"
        have hit1 : Dt K H1 item (dat s') := hit.same s1
        refine eq_D hy hit1 (dat_shaped (shs_ok s (List.mem_of_getElem? ek))) (dat_shaped (shs_ok s' hs')) ?_
        rw [eqv_dat, show decide (s = s') = (Im.sh s').fits shs (.sg k) by show _ = decide (some s' = shs[k]?); rw [ek, Bool.eq_iff_iff]; simp only [decide_eq_true_eq, Option.some.injEq]; exact eq_comm]
        exact q _ s1
    · obtain ⟨z, b, rfl, hz⟩ := all_gv hg him
      obtain ⟨t1, x1, x2, rfl, ht1, i1, i2⟩ := Dt.two hit
      obtain ⟨t2, y1, y2, rfl, ht2, j1, j2⟩ := Dt.two hwv
      cases i1.vstr
      cases i2.vbl
      cases j1.vstr
      cases j2.vbl
      walk_at "go"
      rw [dec_str]
      refine andIf (b2 := decide (c = b)) (fun Q' q' => ?_) ?_
      · walk_at "go"
        rw [dec_bl]
        exact q'
      · have := q H (Same.refl H)
        rw [show (Im.gv z b).fits shs (.gl y c) = (decide (y = z) && decide (c = b)) by show (decide (z = y) && decide (b = c)) = _; rw [Bool.eq_iff_iff]; simp only [Bool.and_eq_true, decide_eq_true_eq]; constructor <;> rintro ⟨rfl, rfl⟩ <;> exact ⟨rfl, rfl⟩] at this
        exact this
    · obtain ⟨n, m, rfl⟩ := all_pr hk2 him
      obtain ⟨t1, x1, x2, rfl, ht1, i1, i2⟩ := Dt.two hit
      obtain ⟨t2, y1, y2, rfl, ht2, j1, j2⟩ := Dt.two hwv
      cases i1.vint
      cases i2.vint
      cases j1.vint
      cases Lim.dv j2
      have fin : ∀ b2, (Im.pr n m).fits shs (.lim l g) = (decide (l ≤ n) && b2) → Q (.bl (decide (l ≤ n) && b2)) H := fun b2 e => by rw [← e]; exact q H (Same.refl H)
      rcases hk2 with rfl | rfl
      all_goals
        walk_at "go"
        cases g with
        | none =>
          refine andIf (b2 := true) (fun Q' q' => ?_) (fin true (by show decide (l ≤ n) = _; rw [Bool.and_true]))
          walk_at "go"
          exact q'
        | some g =>
          refine andIf (b2 := decide (m ≤ g)) (fun Q' q' => ?_) (fin _ rfl)
          walk_at "go"
          exact q'
theorem c__law_answer (D : Def K mg "_law_answer" s__law_answer ["store", "names", "module"]) (T : Tp w K mg cs) (c_resolve : Cal P w K mg base (L2.CX P w) 3 "resolve" (sp_resolve K cs)) : Cal P w K mg base CX0 4 "_law_answer" (sp__law_answer K cs) := by
  refine D.ok sc__law_answer (fun vs H Q E h => ?_) (fun f cdv A outer s H vs Q E hr h => ?_)
  · obtain ⟨st, nl, mo, sg, im, I, xs, ys, ns, ss, rs, rfl, _⟩ := h; rfl
  · obtain ⟨st, nl, mo, sg, im, I, xs, ys, ns, ss, rs, rfl, hst, hok, hS, hD, hns, lns, hmo, hsg, hss, him, hR, hrs, lrs, q⟩ := h
    refine ⟨_, (pss_cons (ps_try_asM (tb := _) (Wo := fun _ _ _ _ => False) rfl rfl sc__law_answer.nd takes0 (fun W pn xe tk po => (pss_one (ps_set (i := 3) sc__law_answer.nd rfl (by first | exact Or.inl rfl | exact Or.inr rfl) (pe_cS c_resolve hr (by decide) (by rfl) (fun σ => passAt tk σ) (pa_cons (pv 0) (pa_cons (pv 1) (pa_cons (pv 2) pa_nil))))))) (.cons (i := 4) (ts := _) rfl rfl ⟨rfl, by decide, .inl T.g_ImportMissing⟩ (fun a oe cls d pn hz hf => (pss_one (ps_ret (pe_tup (pa_cons pe_str (pa_cons (pe_lst (pa_cons (pe_xf T.e_ImportMissing.xf T.no_ImportMissing_index hz hf (pv 4)) (pa_cons (pe_callB (call_isX hz hf T.e_ImportMissing) (by rfl) T.m_isinstance (by decide +kernel) (pa_cons (pv 4) (pa_cons (pe_glob (v := .ref cs.C_HostError) (by rfl) T.g_HostError rfl) pa_nil))) (pa_cons (pe_callB (call_isX hz hf T.e_ImportMissing) (by rfl) T.m_isinstance (by decide +kernel) (pa_cons (pv 4) (pa_cons (pe_glob (v := .ref cs.C_ImportUnfit) (by rfl) T.g_ImportUnfit rfl) pa_nil))) pa_nil)))) pa_nil)))))) (.cons (i := 4) (ts := _) rfl rfl ⟨rfl, by decide, .inl T.g_ImportUnfit⟩ (fun a oe cls d pn hz hf => (pss_one (ps_ret (pe_tup (pa_cons pe_str (pa_cons (pe_lst (pa_cons (pe_xf T.e_ImportUnfit.xf T.no_ImportUnfit_index hz hf (pv 4)) (pa_cons (pe_callB (call_isX hz hf T.e_ImportUnfit) (by rfl) T.m_isinstance (by decide +kernel) (pa_cons (pv 4) (pa_cons (pe_glob (v := .ref cs.C_HostError) (by rfl) T.g_HostError rfl) pa_nil))) (pa_cons (pe_callB (call_isX hz hf T.e_ImportUnfit) (by rfl) T.m_isinstance (by decide +kernel) (pa_cons (pv 4) (pa_cons (pe_glob (v := .ref cs.C_ImportMissing) (by rfl) T.g_ImportMissing rfl) pa_nil))) pa_nil)))) pa_nil)))))) .nil)))
      (pss_one (ps_ret (pe_tup (pa_cons pe_str (pa_cons (pv 3) pa_nil)))))), ?_⟩
    walk_at "go"
    refine ⟨st, nl, mo, sg, im, I, xs, ys, ns, ss, rs, rfl, hst, hok, hS, hD, hns, lns, hmo, hsg, hss, him, hR, hrs, lrs, fun k ek => ?_, fun k ek => ?_, fun is ei => ?_⟩
    · intro d Hf s1 hd
      rw [ek] at q
      refine ⟨true, T.exm_ImportMissing_ImportMissing, fun _ ea hea => ?_, fun z => Bool.noConfusion z⟩
      walk_at "go"
      refine ⟨d, _, _, rfl, hd, rfl, ?_⟩
      walk_at "go"
      refine ⟨_, _, true, d, _, rfl, rfl, rfl, hd, rfl, fun u hu => hu, T.kit_ImportMissing_HostError, ?_⟩
      walk_at "go"
      refine ⟨_, _, false, d, _, rfl, rfl, rfl, hd, rfl, fun u hu => hu, T.kit_ImportMissing_ImportUnfit, ?_⟩
      walk_at "go"
      intro l hl
      generalize x1 : upd Hf l _ = H1
      obtain ⟨s2, k2⟩ := newO hl x1
      clear x1
      walk_at "go"
      intro t ht
      exact q _ _ (s1.trans (s2.trans (Same.new ht))) ⟨t, l, rfl, SqT.of upd_same, Same.new ht _ _ k2⟩
    · intro d Hf s1 hd
      rw [ek] at q
      refine ⟨false, T.exm_ImportUnfit_ImportMissing, fun z => Bool.noConfusion z, fun _ => ⟨true, T.exm_ImportUnfit_ImportUnfit, fun _ ea hea => ?_, fun z => Bool.noConfusion z⟩⟩
      walk_at "go"
      refine ⟨d, _, _, rfl, hd, rfl, ?_⟩
      walk_at "go"
      refine ⟨_, _, true, d, _, rfl, rfl, rfl, hd, rfl, fun u hu => hu, T.kit_ImportUnfit_HostError, ?_⟩
      walk_at "go"
      refine ⟨_, _, false, d, _, rfl, rfl, rfl, hd, rfl, fun u hu => hu, T.kit_ImportUnfit_ImportMissing, ?_⟩
      walk_at "go"
      intro l hl
      generalize x1 : upd Hf l _ = H1
      obtain ⟨s2, k2⟩ := newO hl x1
      clear x1
      walk_at "go"
      intro t ht
      exact q _ _ (s1.trans (s2.trans (Same.new ht))) ⟨t, l, rfl, SqT.of upd_same, Same.new ht _ _ k2⟩
    · intro u Hf s1 hu
      rw [ei] at q
      walk_at "go"
      intro t ht
      exact q _ _ (s1.trans (Same.new ht)) ⟨t, u, rfl, SqT.of upd_same, Same.new ht _ _ hu⟩
theorem c__law_what (D : Def K mg "_law_what" s__law_what ["tape", "at", "kind", "item"]) (T : Tp w K mg cs) (c__law_shapes : Cal P w K mg base CX0 1 "_law_shapes" (sp__law_shapes K cs)) (c__law_draw : Cal P w K mg base CX0 1 "_law_draw" (sp__law_draw K cs)) : Cal P w K mg base CX0 2 "_law_what" (sp__law_what K cs) := by
  refine D.ok sc__law_what (fun vs H Q E h => ?_) (fun f cdv A outer s H vs Q E hr h => ?_)
  · obtain ⟨a, ts, p, kd, item, I, i, im, rfl, _⟩ := h; rfl
  · obtain ⟨a, ts, p, kd, item, I, i, im, rfl, hS, ⟨hp0, hp⟩, hk, hg, him, hit, q⟩ := h
    refine ⟨_, (pss_cons (ps_set (i := 4) sc__law_what.nd rfl (by first | exact Or.inl rfl | exact Or.inr rfl) (pe_c0 c__law_shapes hr (by decide) (by rfl)))
      (pss_cons (ps_if (PW.pt (pw_or (pt_cmpR op_eq (pv 2) pe_str (by first | rfl | exact nomark _)) (pw_or1 (pt_cmpR op_eq (pv 2) pe_str (by first | rfl | exact nomark _))))) (pss_cons (ps_setLc (i := 6) (own := [("k", 7)]) (g := gName 7) (tt := _) (by rfl) sc__law_what.nd rfl rfl (sw_true rfl rfl rfl (by decide +kernel)) (pi_range1 (by rfl) T.m_range (pa_cons pe_int pa_nil)) (blkOk_by (own := [("k", 7)]) (N := ["tape", "at", "kind", "item", "shapes", "least", "found", "k"]) (sc := defScope s__law_what) (by decide +kernel)) (fun _ _ _ _ _ => (pg_name (i := 7) sc__law_what.nd rfl (by first | exact Or.inl rfl | exact Or.inr rfl))) (fun _ _ _ _ _ => pts_one (pt_cmpR (op_eqDB (hu64 hr)) (pe_ix ix_tupB (pv 4) (pv 7) (fun _ _ => rfl)) (pv 3) (by first | rfl | exact nomark _))) (fun _ _ _ _ _ => (pv 7)))
      (pss_cons (ps_if (pt_cmpR op_eq (pe_c c__law_draw hr (by decide) (by rfl) (pa_cons (pv 0) (pa_cons (pv 1) (pa_cons pe_int pa_nil)))) pe_int (by first | rfl | exact nomark _)) (pss_one (ps_ret (pe_ix ix_list (pe_lst (pa_cons pe_int (pa_cons pe_int (pa_cons pe_int pa_nil)))) (pe_c c__law_draw hr (by decide) (by rfl) (pa_cons (pv 0) (pa_cons (pe_op op_add (pv 1) pe_int) (pa_cons pe_int pa_nil)))) (fun _ _ => rfl)))) pss_nil)
      (pss_one (ps_ret (pe_ix ix_list (pv 6) pe_int (fun _ _ => rfl)))))) pss_nil)
      (pss_cons (ps_if (pt_cmpR op_eq (pv 2) pe_str (by first | rfl | exact nomark _)) (pss_one (ps_ret (pe_tup (pa_cons (pe_ix ix_tup (pv 3) pe_int (fun _ _ => rfl)) (pa_cons (pe_cmpR op_eq (pe_ix ix_tup (pv 3) pe_int (fun _ _ => rfl)) (pe_cmpR op_gt (pe_c c__law_draw hr (by decide) (by rfl) (pa_cons (pv 0) (pa_cons (pv 1) (pa_cons pe_int pa_nil)))) pe_int (by first | rfl | exact nomark _)) (by first | rfl | exact nomark _)) pa_nil))))) pss_nil)
      (pss_cons (ps_set (i := 5) sc__law_what.nd rfl (by first | exact Or.inl rfl | exact Or.inr rfl) (pe_op op_add (pe_ix ix_tup (pv 3) pe_int (fun _ _ => rfl)) (pe_ix ix_list (pe_lst (pa_cons pe_int (pa_cons pe_int (pa_cons pe_int (pa_cons pe_int pa_nil))))) (pe_c c__law_draw hr (by decide) (by rfl) (pa_cons (pv 0) (pa_cons (pv 1) (pa_cons pe_int pa_nil)))) (fun _ _ => rfl))))
      (pss_cons (ps_if (pt_cmpR op_eq (pe_c c__law_draw hr (by decide) (by rfl) (pa_cons (pv 0) (pa_cons (pe_op op_add (pv 1) pe_int) (pa_cons pe_int pa_nil)))) pe_int (by first | rfl | exact nomark _)) (pss_one (ps_ret (pe_tup (pa_cons (pv 5) (pa_cons pe_non pa_nil))))) pss_nil)
      (pss_one (ps_ret (pe_tup (pa_cons (pv 5) (pa_cons (pe_callB (call_max2 rfl) (by rfl) T.m_max (by decide +kernel) (pa_cons (pv 5) (pa_cons (pe_op op_add (pe_ix ix_tup (pv 3) pe_int (fun _ _ => rfl)) (pe_ix ix_list (pe_lst (pa_cons pe_int (pa_cons pe_int (pa_cons pe_int (pa_cons (pe_un un_neg pe_int) pa_nil))))) (pe_c c__law_draw hr (by decide) (by rfl) (pa_cons (pv 0) (pa_cons (pe_op op_add (pv 1) pe_int) (pa_cons pe_int pa_nil)))) (fun _ _ => rfl))) pa_nil))) pa_nil)))))))))), ?_⟩
    walk_at "go"
    intro v H1 s1 dv
    have hS1 := s1.seq hS
    have hit1 := hit.same s1
    clear hit hS
    have hkk : (kd = "func" ∨ kd = "tag") ∨ kd = "global" ∨ (kd = "table" ∨ kd = "memory") := by
      rcases kdL_cases hk with h | h | h | h | h
      · exact .inl (.inl h)
      · exact .inl (.inr h)
      · exact .inr (.inr (.inl h))
      · exact .inr (.inl h)
      · exact .inr (.inr (.inr h))
    rcases hkk with hk2 | rfl | hk2
    · obtain ⟨s, hs, rfl⟩ := all_sh hg hk2 him
      have hit1 : Dt K H1 item (dat s) := hit1
      obtain ⟨k0, e0, f0⟩ : ∃ k0 : Nat, shs[k0]? = some s ∧ (List.range 4).filter (fun k => decide (shs[k]? = some s)) = [k0] := by
        simp only [shs, List.mem_cons, List.not_mem_nil, or_false] at hs
        rcases hs with rfl | rfl | rfl | rfl
        · exact ⟨0, rfl, by decide +kernel⟩
        · exact ⟨1, rfl, by decide +kernel⟩
        · exact ⟨2, rfl, by decide +kernel⟩
        · exact ⟨3, rfl, by decide +kernel⟩
      have fin : ∀ (k : Nat) (s' : Shape) (G : Hp), shs[k]? = some s' → Same H1 G → Q (.int (k : Int)) G := fun k s' G ek sG => q _ (.sg k) G (s1.trans sG) (.int _) (.inl ⟨hk2, k, s', rfl, ek⟩)
      rcases hk2 with rfl | rfl
      all_goals
        walk_at "go"
        intro D hD
        refine lcD_range (K := K) (n := 4) (j := 7) (fun i => ((List.range i).filter (fun k => decide (shs[k]? = some s))).map fun (k : Nat) => PyData.int (k : Int)) hD (by omega) rfl (fun i G hi sG => ?_) (fun G fs sG kF dF lF => ?_)
        · intro Y N hY hN
          obtain ⟨si, esi⟩ : ∃ si, shs[i]? = some si := ⟨_, List.getElem?_eq_getElem (by show i < 4; omega)⟩
          walk_at "go"
          refine ix_D (k := i) (dv.same sG) (by rw [List.getElem?_map, esi]; rfl) fun y hy => ?_
          walk_at "go"
          refine eq_D hy (hit1.same sG) (dat_shaped (shs_ok si (List.mem_of_getElem? esi))) (dat_shaped (shs_ok s hs)) ?_
          rw [eqv_dat]
          walk_at "go"
          refine ite2 (fun c => ?_) (fun c => ?_)
          · walk_at "go"
            exact hY _ _ _ (Same.refl _) (.int _) (range_filter_yes (by show decide _ = true; rw [esi]; rw [show si = s from of_decide_eq_true c]; exact decide_eq_true rfl))
          · exact hN _ (Same.refl _) (range_filter_no (by show decide _ = false; rw [esi]; exact decide_eq_false fun z => c (decide_eq_true (Option.some.inj z))))
        have dF : DtA K G fs [PyData.int (k0 : Int)] := by
          have z := dF
          rw [f0] at z
          exact z
        walk_at "go"
        refine ⟨a, ts, p, 6, rfl, sG.seq hS1, ⟨by omega, by omega⟩, by decide, fun v1 v10 v11 => ?_⟩
        walk_at "go"
        refine ite2 (fun c => ?_) (fun c => ?_)
        · walk_at "go"
          intro e1 h1
          generalize x1 : upd G e1 _ = G1
          obtain ⟨s2, k2⟩ : Same G G1 ∧ G1 e1 = some (.lst (l3.map V.int)) := by subst x1; exact ⟨Same.new h1, upd_same⟩
          clear x1
          walk_at "go"
          refine ⟨a, ts, p + 1, 3, rfl, (sG.trans s2).seq hS1, ⟨by omega, by omega⟩, by decide, fun v2 v20 v21 => ?_⟩
          obtain ⟨k, rfl⟩ := Int.eq_ofNat_of_zero_le v20
          refine ⟨e1, _, _, _, rfl, rfl, SqL.of k2, at_ints (show k < 3 by omega), ?_⟩
          match k, v21 with
          | 0, _ => exact fin 0 _ _ rfl (sG.trans s2)
          | 1, _ => exact fin 2 _ _ rfl (sG.trans s2)
          | 2, _ => exact fin 3 _ _ rfl (sG.trans s2)
          | n + 3, h => exact absurd h (by omega)
        · walk_at "go"
          refine ix_Dl (k := 0) (SqL.of kF) dF rfl fun y hy => ?_
          cases hy.vint
          exact fin k0 s _ e0 sG
    · obtain ⟨z, b, rfl, hz⟩ := all_gv hg him
      obtain ⟨t1, x1, x2, rfl, ht1, i1, i2⟩ := Dt.two hit1
      cases i1.vstr
      cases i2.vbl
      walk_at "go"
      refine ⟨a, ts, p, 6, rfl, hS1, ⟨by omega, by omega⟩, by decide, fun v1 v10 v11 => ?_⟩
      walk_at "go"
      intro t ht
      generalize x2 : upd H1 t _ = H2
      obtain ⟨s2, d2⟩ := newT (K := K) ht x2 (.cons (.str z) (.cons (.bl _) .nil))
      exact q _ (.gl z _) _ (s1.trans s2) d2 (.inr (.inl ⟨rfl, z, _, rfl, ok_kind hz⟩))
    · obtain ⟨n, m, rfl⟩ := all_pr hk2 him
      obtain ⟨t1, x1, x2, rfl, ht1, i1, i2⟩ := Dt.two hit1
      cases i1.vint
      cases i2.vint
      have fin : ∀ (t : Addr) (l : Int) (g : Lim) (G : Hp), Same H1 G → Dt K G (.ref t) (.tuple [.int l, g.d]) → Q (.ref t) G := fun t l g G sG d => q _ (.lim l g) G (s1.trans sG) d (.inr (.inr ⟨hk2, l, g, rfl⟩))
      rcases hk2 with rfl | rfl
      all_goals
        walk_at "go"
        intro e1 h1
        generalize y1 : upd H1 e1 _ = H2
        obtain ⟨s2, k2⟩ : Same H1 H2 ∧ H2 e1 = some (.lst (l4a.map V.int)) := by subst y1; exact ⟨Same.new h1, upd_same⟩
        clear y1
        have ht2 := Same.ti (K := K) s2 _ _ ht1
        walk_at "go"
        refine ⟨a, ts, p, 4, rfl, s2.seq hS1, ⟨by omega, by omega⟩, by decide, fun v1 v10 v11 => ?_⟩
        obtain ⟨k, rfl⟩ := Int.eq_ofNat_of_zero_le v10
        refine ⟨e1, _, _, _, rfl, rfl, SqL.of k2, at_ints (show k < 4 by omega), ?_⟩
        walk_at "go"
        refine ⟨a, ts, p + 1, 2, rfl, s2.seq hS1, ⟨by omega, by omega⟩, by decide, fun v2 v20 v21 => ?_⟩
        walk_at "go"
        refine ite2 (fun c => ?_) (fun c => ?_)
        · walk_at "go"
          intro t ht
          generalize x2 : upd H2 t _ = H3
          obtain ⟨s3, d3⟩ := newT (K := K) ht x2 (.cons (.int _) (.cons .non .nil))
          exact fin t _ .none _ (s2.trans s3) d3
        · walk_at "go"
          intro e2 h2
          generalize y2 : upd H2 e2 _ = H3
          obtain ⟨s3, k3⟩ : Same H2 H3 ∧ H3 e2 = some (.lst (l4b.map V.int)) := by subst y2; exact ⟨Same.new h2, upd_same⟩
          clear y2
          have ht3 := Same.ti (K := K) s3 _ _ ht2
          walk_at "go"
          refine ⟨a, ts, p + 2, 4, rfl, (s2.trans s3).seq hS1, ⟨by omega, by omega⟩, by decide, fun v3 v30 v31 => ?_⟩
          obtain ⟨k', rfl⟩ := Int.eq_ofNat_of_zero_le v30
          refine ⟨e2, _, _, _, rfl, rfl, SqL.of k3, at_ints (show k' < 4 by omega), ?_⟩
          walk_at "go"
          intro t ht
          generalize x2 : upd H3 t _ = H4
          obtain ⟨s4, d4⟩ := newT (K := K) ht x2 (.cons (.int _) (.cons (.int _) .nil))
          exact fin t _ (.some _) _ (s2.trans (s3.trans s4)) d4
theorem c__law_items (D : Def K mg "_law_items" s__law_items ["tape"]) (T : Tp w K mg cs) (c__law_shapes : Cal P w K mg base CX0 1 "_law_shapes" (sp__law_shapes K cs)) (c__law_draw : Cal P w K mg base CX0 1 "_law_draw" (sp__law_draw K cs)) : Cal P w K mg base CX0 2 "_law_items" (sp__law_items K cs) := by
  refine D.ok sc__law_items (fun vs H Q E h => ?_) (fun f cdv A outer s H vs Q E hr h => ?_)
  · obtain ⟨a, ts, rfl, _⟩ := h; rfl
  · obtain ⟨a, ts, rfl, hS, q⟩ := h
    refine ⟨_, (pss_cons (ps_set (i := 1) sc__law_items.nd rfl (by first | exact Or.inl rfl | exact Or.inr rfl) (pe_c0 c__law_shapes hr (by decide) (by rfl)))
      (pss_cons (ps_setLc (i := 2) (own := [("k", 7)]) (g := gName 7) (tt := tYes) (by rfl) sc__law_items.nd rfl rfl (sw_true rfl rfl rfl (by decide +kernel)) (pi_range1 (by rfl) T.m_range (pa_cons pe_int pa_nil)) (blkOk_by (own := [("k", 7)]) (N := ["tape", "shapes", "functions", "tags", "tables", "memories", "variables", "k"]) (sc := defScope s__law_items) (by decide +kernel)) (fun _ _ _ _ _ => (pg_name (i := 7) sc__law_items.nd rfl (by first | exact Or.inl rfl | exact Or.inr rfl))) (fun _ _ _ _ _ => pts_nil) (fun _ _ _ _ _ => (pe_ix ix_tupB (pv 1) (pe_c c__law_draw hr (by decide) (by rfl) (pa_cons (pv 0) (pa_cons (pv 7) (pa_cons pe_int pa_nil)))) (fun _ _ => rfl))))
      (pss_cons (ps_setLc (i := 3) (own := [("k", 7)]) (g := gName 7) (tt := tYes) (by rfl) sc__law_items.nd rfl rfl (sw_true rfl rfl rfl (by decide +kernel)) (pi_range1 (by rfl) T.m_range (pa_cons pe_int pa_nil)) (blkOk_by (own := [("k", 7)]) (N := ["tape", "shapes", "functions", "tags", "tables", "memories", "variables", "k"]) (sc := defScope s__law_items) (by decide +kernel)) (fun _ _ _ _ _ => (pg_name (i := 7) sc__law_items.nd rfl (by first | exact Or.inl rfl | exact Or.inr rfl))) (fun _ _ _ _ _ => pts_nil) (fun _ _ _ _ _ => (pe_ix ix_tupB (pv 1) (pe_ix ix_listB (pe_lst (pa_cons pe_int (pa_cons pe_int (pa_cons pe_int pa_nil)))) (pe_c c__law_draw hr (by decide) (by rfl) (pa_cons (pv 0) (pa_cons (pe_op op_add pe_int (pv 7)) (pa_cons pe_int pa_nil)))) (fun _ _ => rfl)) (fun _ _ => rfl))))
      (pss_cons (ps_setLc (i := 4) (own := [("k", 7)]) (g := gName 7) (tt := tYes) (by rfl) sc__law_items.nd rfl rfl (sw_true rfl rfl rfl (by decide +kernel)) (pi_range1 (by rfl) T.m_range (pa_cons pe_int pa_nil)) (blkOk_by (own := [("k", 7)]) (N := ["tape", "shapes", "functions", "tags", "tables", "memories", "variables", "k"]) (sc := defScope s__law_items) (by decide +kernel)) (fun _ _ _ _ _ => (pg_name (i := 7) sc__law_items.nd rfl (by first | exact Or.inl rfl | exact Or.inr rfl))) (fun _ _ _ _ _ => pts_nil) (fun _ _ _ _ _ => (pe_tup (pa_cons (pe_c c__law_draw hr (by decide) (by rfl) (pa_cons (pv 0) (pa_cons (pe_op op_add pe_int (pv 7)) (pa_cons pe_int pa_nil)))) (pa_cons (pe_op op_add pe_int (pe_c c__law_draw hr (by decide) (by rfl) (pa_cons (pv 0) (pa_cons (pe_op op_add pe_int (pv 7)) (pa_cons pe_int pa_nil))))) pa_nil)))))
      (pss_cons (ps_setLc (i := 5) (own := [("k", 7)]) (g := gName 7) (tt := tYes) (by rfl) sc__law_items.nd rfl rfl (sw_true rfl rfl rfl (by decide +kernel)) (pi_range1 (by rfl) T.m_range (pa_cons pe_int pa_nil)) (blkOk_by (own := [("k", 7)]) (N := ["tape", "shapes", "functions", "tags", "tables", "memories", "variables", "k"]) (sc := defScope s__law_items) (by decide +kernel)) (fun _ _ _ _ _ => (pg_name (i := 7) sc__law_items.nd rfl (by first | exact Or.inl rfl | exact Or.inr rfl))) (fun _ _ _ _ _ => pts_nil) (fun _ _ _ _ _ => (pe_tup (pa_cons (pe_c c__law_draw hr (by decide) (by rfl) (pa_cons (pv 0) (pa_cons (pe_op op_add pe_int (pv 7)) (pa_cons pe_int pa_nil)))) (pa_cons (pe_op op_add pe_int (pe_c c__law_draw hr (by decide) (by rfl) (pa_cons (pv 0) (pa_cons (pe_op op_add pe_int (pv 7)) (pa_cons pe_int pa_nil))))) pa_nil)))))
      (pss_cons (ps_setLc (i := 6) (own := [("k", 7)]) (g := gName 7) (tt := tYes) (by rfl) sc__law_items.nd rfl rfl (sw_true rfl rfl rfl (by decide +kernel)) (pi_range1 (by rfl) T.m_range (pa_cons pe_int pa_nil)) (blkOk_by (own := [("k", 7)]) (N := ["tape", "shapes", "functions", "tags", "tables", "memories", "variables", "k"]) (sc := defScope s__law_items) (by decide +kernel)) (fun _ _ _ _ _ => (pg_name (i := 7) sc__law_items.nd rfl (by first | exact Or.inl rfl | exact Or.inr rfl))) (fun _ _ _ _ _ => pts_nil) (fun _ _ _ _ _ => (pe_tup (pa_cons (pe_ix ix_listB (pe_lst (pa_cons pe_str (pa_cons pe_str pa_nil))) (pe_c c__law_draw hr (by decide) (by rfl) (pa_cons (pv 0) (pa_cons (pe_op op_add pe_int (pv 7)) (pa_cons pe_int pa_nil)))) (fun _ _ => rfl)) (pa_cons (pe_cmpR op_eq (pe_c c__law_draw hr (by decide) (by rfl) (pa_cons (pv 0) (pa_cons (pe_op op_add pe_int (pv 7)) (pa_cons pe_int pa_nil)))) pe_int (by first | rfl | exact nomark _)) pa_nil)))))
      (pss_one (ps_ret (pe_disp (pps_cons pe_str (pv 2) (pps_cons pe_str (pv 3) (pps_cons pe_str (pv 4) (pps_cons pe_str (pv 5) (pps_cons pe_str (pv 6) pps_nil))))) rfl rfl (by decide) (by decide)))))))))), ?_⟩
    walk_at "go"
    intro v H1 s1 dv
    walk_at "go"
    intro D1 hD1
    refine lcX_range (K := K) (n := 3) (j := 7) dat (· ∈ shs) hD1 (by omega) (fun i G Y hi sG hY => ?_) (fun G1 fs If t1 kf df pf lf => ?_)
    · walk_at "go"
      refine ⟨a, ts, (i : Int), 4, rfl, (s1.trans sG).seq hS, ⟨by omega, by omega⟩, by decide, fun u u0 u1 => ?_⟩
      obtain ⟨k, rfl⟩ := Int.eq_ofNat_of_zero_le u0
      obtain ⟨si, esi⟩ : ∃ si, shs[k]? = some si := ⟨_, List.getElem?_eq_getElem (by show k < 4; omega)⟩
      refine ix_D (k := k) (dv.same sG) (by rw [List.getElem?_map, esi]; rfl) fun y hy => ?_
      exact hY _ _ si (Same.refl _) hy (List.mem_of_getElem? esi)
    have S1 := s1.trans t1
    walk_at "go"
    intro D2 hD2
    refine lcX_range (K := K) (n := 2) (j := 7) dat (· ∈ shs) hD2 (by omega) (fun i G Y hi sG hY => ?_) (fun G2 gs Ig t2 kg dg pg lg => ?_)
    · walk_at "go"
      intro e1 h1
      generalize x1 : upd G e1 _ = G'
      obtain ⟨s2, k2⟩ : Same G G' ∧ G' e1 = some (.lst (l3.map V.int)) := by subst x1; exact ⟨Same.new h1, upd_same⟩
      clear x1
      walk_at "go"
      refine ⟨a, ts, 3 + (i : Int), 3, rfl, (S1.trans (sG.trans s2)).seq hS, ⟨by omega, by omega⟩, by decide, fun u u0 u1 => ?_⟩
      obtain ⟨k, rfl⟩ := Int.eq_ofNat_of_zero_le u0
      refine ⟨e1, _, _, _, rfl, rfl, SqL.of k2, at_ints (show k < 3 by omega), ?_⟩
      obtain ⟨k', ek'⟩ : ∃ k' : Nat, l3.getD k 0 = (k' : Int) ∧ k' < 4 := by
        match k, u1 with
        | 0, _ => exact ⟨0, rfl, by decide⟩
        | 1, _ => exact ⟨2, rfl, by decide⟩
        | 2, _ => exact ⟨3, rfl, by decide⟩
        | n + 3, h => exact absurd h (by omega)
      rw [ek'.1]
      obtain ⟨si, esi⟩ : ∃ si, shs[k']? = some si := ⟨_, List.getElem?_eq_getElem (by show k' < 4; exact ek'.2)⟩
      refine ix_D (k := k') (dv.same (t1.trans (sG.trans s2))) (by rw [List.getElem?_map, esi]; rfl) fun y hy => ?_
      exact hY _ _ si s2 hy (List.mem_of_getElem? esi)
    have S2 := S1.trans t2
    walk_at "go"
    intro D3 hD3
    refine lcX_range (K := K) (n := 2) (j := 7) pD (fun p => 0 ≤ p.1 ∧ p.1 ≤ 100) hD3 (by omega) (fun i G Y hi sG hY => ?_) (fun G3 us It t3 kt dt pt lt => ?_)
    · walk_at "go"
      refine ⟨a, ts, 5 + (i : Int), 9, rfl, (S2.trans sG).seq hS, ⟨by omega, by omega⟩, by decide, fun u u0 u1 => ?_⟩
      walk_at "go"
      refine ⟨a, ts, 7 + (i : Int), 3, rfl, (S2.trans sG).seq hS, ⟨by omega, by omega⟩, by decide, fun u' u0' u1' => ?_⟩
      walk_at "go"
      intro t ht
      generalize x2 : upd G t _ = G'
      obtain ⟨s2, d2⟩ := newT (K := K) ht x2 (.cons (.int _) (.cons (.int _) .nil))
      exact hY _ _ (u, 9 + u') s2 d2 ⟨u0, by show u ≤ 100; omega⟩
    have S3 := S2.trans t3
    walk_at "go"
    intro D4 hD4
    refine lcX_range (K := K) (n := 2) (j := 7) pD (fun _ => True) hD4 (by omega) (fun i G Y hi sG hY => ?_) (fun G4 ms Im t4 km dm pm lm => ?_)
    · walk_at "go"
      refine ⟨a, ts, 9 + (i : Int), 3, rfl, (S3.trans sG).seq hS, ⟨by omega, by omega⟩, by decide, fun u u0 u1 => ?_⟩
      walk_at "go"
      refine ⟨a, ts, 11 + (i : Int), 14, rfl, (S3.trans sG).seq hS, ⟨by omega, by omega⟩, by decide, fun u' u0' u1' => ?_⟩
      walk_at "go"
      intro t ht
      generalize x2 : upd G t _ = G'
      obtain ⟨s2, d2⟩ := newT (K := K) ht x2 (.cons (.int _) (.cons (.int _) .nil))
      exact hY _ _ (u, 3 + u') s2 d2 trivial
    have S4 := S3.trans t4
    walk_at "go"
    intro D5 hD5
    refine lcX_range (K := K) (n := 2) (j := 7) vD (fun p => p.1 = "i32" ∨ p.1 = "i64") hD5 (by omega) (fun i G Y hi sG hY => ?_) (fun G5 vs Iv t5 kv dv' pv lv => ?_)
    · walk_at "go"
      intro e1 h1
      generalize x1 : upd G e1 _ = G'
      obtain ⟨s2, k2⟩ : Same G G' ∧ G' e1 = some (.lst (kkS.map V.str)) := by subst x1; exact ⟨Same.new h1, upd_same⟩
      clear x1
      walk_at "go"
      refine ⟨a, ts, 13 + (i : Int), 2, rfl, (S4.trans (sG.trans s2)).seq hS, ⟨by omega, by omega⟩, by decide, fun u u0 u1 => ?_⟩
      obtain ⟨z, ez, hz⟩ := at_kkS u0 u1
      refine ⟨e1, _, _, _, rfl, rfl, SqL.of k2, ez, ?_⟩
      walk_at "go"
      refine ⟨a, ts, 15 + (i : Int), 2, rfl, (S4.trans (sG.trans s2)).seq hS, ⟨by omega, by omega⟩, by decide, fun u' u0' u1' => ?_⟩
      walk_at "go"
      intro t ht
      generalize x2 : upd G' t _ = G2'
      obtain ⟨s3, d3⟩ := newT (K := K) ht x2 (.cons (.str z) (.cons (.bl _) .nil))
      exact hY _ _ (z, _) (s2.trans s3) d3 hz
    have S5 := S4.trans t5
    walk_at "go"
    intro d hd
    generalize x6 : upd G5 d _ = G6
    obtain ⟨s6, k6⟩ := newO hd x6
    clear x6
    walk_at "go"
    refine ⟨[(.inr "func", .ref D1), (.inr "tag", .ref D2), (.inr "table", .ref D3), (.inr "memory", .ref D4), (.inr "global", .ref D5)], rfl, by show 5 ≤ 15; decide, ?_⟩
    generalize x7 : upd G6 d _ = G7
    have s67 : Same G5 G7 := fun b o e => by
      subst x7
      rw [upd_ne (ne_of_none e hd)]
      exact s6 _ _ e
    have k7 : G7 d = some (.dK [(.inr "func", .ref D1), (.inr "tag", .ref D2), (.inr "table", .ref D3), (.inr "memory", .ref D4), (.inr "global", .ref D5)]) := by
      subst x7
      rw [upd_same]
      rfl
    clear x7
    have z5 := s67
    have z4 := t5.trans z5
    have z3 := t4.trans z4
    have z2 := t3.trans z3
    have z1 := t2.trans z2
    exact q d ⟨If, Ig, It, Im, Iv⟩ G7 (S5.trans s67) ⟨D1, D2, D3, D4, D5, fs, gs, us, ms, vs, k7, z1 _ _ kf, df.same z1, z2 _ _ kg, dg.same z2, z3 _ _ kt, dt.same z3, z4 _ _ km, dm.same z4, z5 _ _ kv, dv'.same z5⟩ ⟨lf, lg, lt, lm, lv, pf, pg, pt, pv⟩
theorem c__law_store (D : Def K mg "_law_store" s__law_store ["items"]) (T : Tp w K mg cs) (c_Store___init__ : CalI P w K mg base CX0 (Cs.C_Store cs) 1 (sp_Store___init__ K cs)) (c_add_host : Cal P w K mg base (L2.CX P w) 4 "add_host" (sp_add_host K cs)) (c_Table___init__ : CalI P w K mg base CX0 (Cs.C_Table cs) 1 (sp_Table___init__ K cs)) (c_Memory___init__ : CalI P w K mg base CX0 (Cs.C_Memory cs) 1 (sp_Memory___init__ K cs)) (c_Global___init__ : CalI P w K mg base CX0 (Cs.C_Global cs) 1 (sp_Global___init__ K cs)) : Cal P w K mg base CX0 5 "_law_store" (sp__law_store K cs) := by
  refine D.ok sc__law_store (fun vs H Q E h => ?_) (fun f cdv A outer s H vs Q E hr h => ?_)
  · obtain ⟨d, I, rfl, _⟩ := h; rfl
  · obtain ⟨d, I, rfl, ⟨xf, xg, xt, xm, xv, fs, gs, ts, ms, us, h0, h1, h2, h3, h4, h5, h6, h7, h8, h9, h10⟩, ⟨g1, g2, g3, g4, g5, g6, g7, g8, g9⟩, q⟩ := h
    have lfs := h2.len
    have lgs := h4.len
    have lts := h6.len
    have lms := h8.len
    have lus := h10.len
    rw [List.length_map] at lfs lgs lts lms lus
    refine ⟨_, (pss_cons (ps_set (i := 1) sc__law_store.nd rfl (by first | exact Or.inl rfl | exact Or.inr rfl) (pe_nw0 c_Store___init__ hr (by decide) (by rfl) T.g_Store))
      (pss_cons (ps_for PassesOwn.never rfl (pi_list (pe_dget (hu1 hr) (pv 0) pe_str (fun _ _ => rfl))) (pg_name (i := 2) sc__law_store.nd rfl (by first | exact Or.inl rfl | exact Or.inr rfl)) (pss_one (ps_expr (pe_cE c_add_host hr (by decide) passL (by rfl) (pa_cons (pv 1) (pa_cons (pe_ix ix_tup (pv 2) pe_int (fun _ _ => rfl)) (pa_cons (pe_ix ix_tup (pv 2) pe_int (fun _ _ => rfl)) pa_nil)))))))
      (pss_cons (ps_for PassesOwn.never rfl (pi_list (pe_dget (hu1 hr) (pv 0) pe_str (fun _ _ => rfl))) (pg_name (i := 2) sc__law_store.nd rfl (by first | exact Or.inl rfl | exact Or.inr rfl)) (pss_one (ps_expr (pe_bm PySem.F.plainAttrs_list PySem.F.slot_list_append PySem.F.type_list_append mt_append (pe_fld (pv 1) rfl) (pa_cons (pv 2) pa_nil)))))
      (pss_cons (ps_for PassesOwn.never rfl (pi_list (pe_dget (hu1 hr) (pv 0) pe_str (fun _ _ => rfl))) (pg_name (i := 3) sc__law_store.nd rfl (by first | exact Or.inl rfl | exact Or.inr rfl)) (pss_one (ps_expr (pe_bm PySem.F.plainAttrs_list PySem.F.slot_list_append PySem.F.type_list_append mt_append (pe_fld (pv 1) rfl) (pa_cons (pe_nw c_Table___init__ hr (by decide) (by rfl) T.g_Table (pa_cons (pe_ix ix_tup (pv 3) pe_int (fun _ _ => rfl)) (pa_cons (pe_ix ix_tup (pv 3) pe_int (fun _ _ => rfl)) pa_nil))) pa_nil)))))
      (pss_cons (ps_for PassesOwn.never rfl (pi_list (pe_dget (hu1 hr) (pv 0) pe_str (fun _ _ => rfl))) (pg_name (i := 3) sc__law_store.nd rfl (by first | exact Or.inl rfl | exact Or.inr rfl)) (pss_one (ps_expr (pe_bm PySem.F.plainAttrs_list PySem.F.slot_list_append PySem.F.type_list_append mt_append (pe_fld (pv 1) rfl) (pa_cons (pe_nw c_Memory___init__ hr (by decide) (by rfl) T.g_Memory (pa_cons (pe_ix ix_tup (pv 3) pe_int (fun _ _ => rfl)) (pa_cons (pe_ix ix_tup (pv 3) pe_int (fun _ _ => rfl)) pa_nil))) pa_nil)))))
      (pss_cons (ps_for PassesOwn.never rfl (pi_list (pe_dget (hu1 hr) (pv 0) pe_str (fun _ _ => rfl))) (pg_name (i := 4) sc__law_store.nd rfl (by first | exact Or.inl rfl | exact Or.inr rfl)) (pss_one (ps_expr (pe_bm PySem.F.plainAttrs_list PySem.F.slot_list_append PySem.F.type_list_append mt_append (pe_fld (pv 1) rfl) (pa_cons (pe_nw c_Global___init__ hr (by decide) (by rfl) T.g_Global (pa_cons (pe_ix ix_tup (pv 4) pe_int (fun _ _ => rfl)) (pa_cons (pe_ix ix_tup (pv 4) pe_int (fun _ _ => rfl)) (pa_cons pe_int pa_nil)))) pa_nil)))))
      (pss_one (ps_ret (pv 1))))))))), ?_⟩
    walk_at "go"
    intro st dx nst ndx nxd
    refine ⟨st, dx, rfl, upd_same, fun lf lt lm lv lg li H1 sto1 hl1 nd1 b1 => ⟨rfl, ?_⟩⟩
    have s1 := made_same nst ndx b1
    have fresh : ∀ l ∈ [lf, lt, lm, lv, lg, li], H l = none := fun l hl => by
      have z := (hl1 l hl).1
      by_cases e1 : l = st
      · rw [e1]; exact nst
      · by_cases e2 : l = dx
        · rw [e2]; exact ndx
        · rw [upd_ne e1, upd_ne e2] at z; exact z
    have B1 : StoB K cs H1 st lf lt lm lv lg li [] [] [] [] [] ⟨[], [], [], [], []⟩ :=
      ⟨sto1, (hl1 lf (by simp)).2, (hl1 lg (by simp)).2, (hl1 lt (by simp)).2, (hl1 lm (by simp)).2, (hl1 lv (by simp)).2, (hl1 li (by simp)).2, ⟨rfl, fun i s z => by cases i <;> cases z⟩, .nil, ⟨rfl, fun i s z => by cases i <;> cases z⟩, ⟨rfl, fun i s z => by cases i <;> cases z⟩, ⟨rfl, fun i s z => by cases i <;> cases z⟩⟩
    have mf : lf ∈ [lf, lt, lm, lv, lg, li] := by simp
    have mt : lt ∈ [lf, lt, lm, lv, lg, li] := by simp
    have mm : lm ∈ [lf, lt, lm, lv, lg, li] := by simp
    have mv : lv ∈ [lf, lt, lm, lv, lg, li] := by simp
    have mg : lg ∈ [lf, lt, lm, lv, lg, li] := by simp
    simp only [List.nodup_cons, List.mem_cons, List.not_mem_nil, or_false, not_or, List.nodup_nil, and_true, not_false_eq_true] at nd1
    obtain ⟨⟨n1, n2, n3, n4, n5⟩, ⟨n6, n7, n8, n9⟩, ⟨n10, n11, n12⟩, ⟨n13, n14⟩, n15⟩ := nd1
    clear hl1 b1 sto1
    -- functions
    walk_at "go"
    refine ⟨d, _, rfl, DGet.k (k := (.inr "func" : Key)) (s1 _ _ h0), xf, rfl, ⟨_, SqL.of (s1 _ _ h1)⟩, for_listD (xs := fs) (fun i σ G => Same H G ∧ (∃ Fs, StoB K cs G st lf lt lm lv lg li Fs [] [] [] [] ⟨I.f.take i, [], [], [], []⟩) ∧ ∃ o2 o3 o4, σ = [some (.ref d), some (.ref st), o2, o3, o4]) ⟨s1, ⟨_, B1⟩, _, _, _, rfl⟩ (fun i σ G _ h => SqL.of (h.1 _ _ h1)) ?_ ?_⟩
    · rintro i x _ G hx ⟨sG, ⟨Fs, B⟩, o2, o3, o4, rfl⟩
      obtain ⟨dd, ed, dx1⟩ := (h2.same sG).geti hx
      obtain ⟨s, es, rfl⟩ : ∃ s, I.f[i]? = some s ∧ dat s = dd := by
        rw [List.getElem?_map] at ed
        cases e : I.f[i]? with
        | none => rw [e] at ed; cases ed
        | some y => rw [e] at ed; cases ed; exact ⟨y, rfl, rfl⟩
      obtain ⟨t, y1, y2, rfl, ht, j1, j2⟩ := Dt.two dx1
      obtain ⟨p1, _, rfl, _, _⟩ := j1.vtup
      obtain ⟨r1, _, rfl, _, _⟩ := j2.vtup
      walk_at "go"
      have hi : i < I.f.length := (List.getElem?_eq_some_iff.mp es).1
      refine ⟨st, p1, r1, lf, lt, lm, lv, lg, li, Fs, I.f.take i, s, rfl, B.sto, B.kf, B.F, by rw [List.length_take]; omega, j1, j2, shs_ok s (g6 s (List.mem_of_getElem? es)), fun F G' b k hh => ?_⟩
      obtain ⟨c, a1, a2, a3, a4, a5, a6⟩ := B.fr mf B.kf b
      walk_at "go"
      exact ⟨Same.of_but sG b fun l hl => fresh l (by rw [List.mem_singleton.mp hl]; exact mf), ⟨Fs ++ [F], a1, k, c _ _ (Ne.symm n4) B.kg, c _ _ (Ne.symm n1) B.kt, c _ _ (Ne.symm n2) B.km, c _ _ (Ne.symm n3) B.kv, c _ _ (Ne.symm n5) B.ki, by rw [take_snoc es]; exact hh, a3, a4, a5, a6⟩, _, _, _, rfl⟩
    rintro _ G2 ⟨s2, ⟨Fs, B2⟩, o2, o3, o4, rfl⟩
    rw [lfs, List.take_length] at B2
    clear B1 s1 H1
    -- tags
    walk_at "go"
    refine ⟨d, _, rfl, DGet.k (k := (.inr "tag" : Key)) (s2 _ _ h0), xg, rfl, ⟨_, SqL.of (s2 _ _ h3)⟩, for_listD (xs := gs) (fun i σ G => Same H G ∧ (∃ Gs, StoB K cs G st lf lt lm lv lg li Fs Gs [] [] [] ⟨I.f, I.g.take i, [], [], []⟩) ∧ ∃ o2 o3 o4, σ = [some (.ref d), some (.ref st), o2, o3, o4]) ⟨s2, ⟨_, B2⟩, _, _, _, rfl⟩ (fun i σ G _ h => SqL.of (h.1 _ _ h3)) ?_ ?_⟩
    · rintro i x _ G hx ⟨sG, ⟨Gs, B⟩, o2, o3, o4, rfl⟩
      obtain ⟨dd, ed, dx1⟩ := (h4.same sG).geti hx
      obtain ⟨s, es, rfl⟩ : ∃ s, I.g[i]? = some s ∧ dat s = dd := by
        rw [List.getElem?_map] at ed
        cases e : I.g[i]? with
        | none => rw [e] at ed; cases ed
        | some y => rw [e] at ed; cases ed; exact ⟨y, rfl, rfl⟩
      have hi : i < I.g.length := (List.getElem?_eq_some_iff.mp es).1
      have lG := B.G.len
      simp only [List.length_map, List.length_take] at lG
      obtain ⟨dxs, sto⟩ := B.sto
      walk_at "go"
      refine ⟨st, _, dxs, _, _, rfl, sto, T.cl_Store, T.n_Store_tags, lk_Store_tags, .inl ⟨rfl, _, SqL.of B.kg⟩, ?_⟩
      walk_at "go"
      refine ⟨_, _, _, rfl, rfl, B.kg, small64' (by omega), ?_⟩
      generalize x4 : upd G lg _ = G'
      have b : SameBut [lg] G G' := by subst x4; exact (SameBut.refl _).upd (List.mem_singleton.mpr rfl)
      have k : G' lg = some (.lst (Gs ++ [x])) := by subst x4; exact upd_same
      clear x4
      obtain ⟨c, a1, a2, a3, a4, a5, a6⟩ := B.fr mg B.kg b
      walk_at "go"
      exact ⟨Same.of_but sG b fun l hl => fresh l (by rw [List.mem_singleton.mp hl]; exact mg), ⟨Gs ++ [x], a1, c _ _ n4 B.kf, k, c _ _ n8 B.kt, c _ _ n11 B.km, c _ _ n13 B.kv, c _ _ (Ne.symm n15) B.ki, a2, by show DtA K G' (Gs ++ [x]) ((I.g.take (i + 1)).map dat); rw [map_take_snoc dat es]; exact a3.snoc (dx1.ti (tiL b B.kg)), a4, a5, a6⟩, _, _, _, rfl⟩
    rintro _ G3 ⟨s3, ⟨Gs, B3⟩, o2, o3, o4, rfl⟩
    rw [lgs, List.take_length] at B3
    clear B2 s2 G2
    -- tables
    walk_at "go"
    refine ⟨d, _, rfl, DGet.k (k := (.inr "table" : Key)) (s3 _ _ h0), xt, rfl, ⟨_, SqL.of (s3 _ _ h5)⟩, for_listD (xs := ts) (fun i σ G => Same H G ∧ (∃ Ts, StoB K cs G st lf lt lm lv lg li Fs Gs Ts [] [] ⟨I.f, I.g, I.t.take i, [], []⟩) ∧ ∃ o2 o3 o4, σ = [some (.ref d), some (.ref st), o2, o3, o4]) ⟨s3, ⟨_, B3⟩, _, _, _, rfl⟩ (fun i σ G _ h => SqL.of (h.1 _ _ h5)) ?_ ?_⟩
    · rintro i x _ G hx ⟨sG, ⟨Ts, B⟩, o2, o3, o4, rfl⟩
      obtain ⟨dd, ed, dx1⟩ := (h6.same sG).geti hx
      obtain ⟨pr, es, rfl⟩ : ∃ s, I.t[i]? = some s ∧ pD s = dd := by
        rw [List.getElem?_map] at ed
        cases e : I.t[i]? with
        | none => rw [e] at ed; cases ed
        | some y => rw [e] at ed; cases ed; exact ⟨y, rfl, rfl⟩
      have hi : i < I.t.length := (List.getElem?_eq_some_iff.mp es).1
      obtain ⟨t, y1, y2, rfl, ht, j1, j2⟩ := Dt.two dx1
      cases j1.vint
      cases j2.vint
      have gp := g8 pr (List.mem_of_getElem? es)
      have lT := B.T.1
      simp only [List.length_take] at lT
      obtain ⟨dxs, sto⟩ := B.sto
      walk_at "go"
      refine ⟨st, _, dxs, _, _, rfl, sto, T.cl_Store, T.n_Store_tables, lk_Store_tables, .inl ⟨rfl, _, SqL.of B.kt⟩, ?_⟩
      walk_at "go"
      intro tb dtb ntb ndtb nxtb
      refine ⟨tb, dtb, pr.1, pr.2, rfl, upd_same, ⟨gp.1, by omega⟩, fun e xe G4 ktb ke le ne b4 => ⟨rfl, ?_⟩⟩
      have s4 := made_same ntb ndtb b4
      have B4 := B.mono s4
      have ne' : G e = none := by
        by_cases e1 : e = tb
        · rw [e1]; exact ntb
        · by_cases e2 : e = dtb
          · rw [e2]; exact ndtb
          · rw [upd_ne e1, upd_ne e2] at ne; exact ne
      have eL : e ∉ [lf, lt, lm, lv, lg, li] := fun z => by
        simp only [List.mem_cons, List.not_mem_nil, or_false] at z
        rcases z with z | z | z | z | z | z
        · rw [z, B.kf] at ne'; cases ne'
        · rw [z, B.kt] at ne'; cases ne'
        · rw [z, B.km] at ne'; cases ne'
        · rw [z, B.kv] at ne'; cases ne'
        · rw [z, B.kg] at ne'; cases ne'
        · rw [z, B.ki] at ne'; cases ne'
      walk_at "go"
      refine ⟨_, _, _, rfl, rfl, B4.kt, small64' (by omega), ?_⟩
      generalize x4 : upd G4 lt _ = G'
      have b : SameBut [lt] G4 G' := by subst x4; exact (SameBut.refl _).upd (List.mem_singleton.mpr rfl)
      have k : G' lt = some (.lst (Ts ++ [.ref tb])) := by subst x4; exact upd_same
      clear x4
      obtain ⟨c, a1, a2, a3, a4, a5, a6⟩ := B4.fr mt B4.kt b
      walk_at "go"
      have ktb' := b _ _ (fun z => ne_lst ktb B4.kt (fun _ z => nomatch z) (List.mem_singleton.mp z)) ktb
      have ke' := b _ _ (fun z => eL (by rw [List.mem_singleton.mp z]; exact mt)) ke
      refine ⟨Same.of_but (sG.trans s4) b fun l hl => fresh l (by rw [List.mem_singleton.mp hl]; exact mt), ⟨Ts ++ [.ref tb], a1, c _ _ n1 B4.kf, c _ _ (Ne.symm n8) B4.kg, k, c _ _ (Ne.symm n6) B4.km, c _ _ (Ne.symm n7) B4.kv, c _ _ (Ne.symm n9) B4.ki, a2, a3, ?_, a5, a6⟩, _, _, _, rfl⟩
      show (Ts ++ [V.ref tb]).length = (I.t.take (i + 1)).length ∧ _
      rw [take_snoc es]
      have z := snoc_get (R := fun (p : Int × Int) (y : V) => ∃ a : Addr, y = .ref a ∧ ∃ dx e xs, G' a = some (.ins cs.C_Table dx (fs_Table (.ref e) (.int p.2))) ∧ G' e = some (.lst xs) ∧ (xs.length : Int) = p.1 ∧ e ∉ [lf, lt, lm, lv, lg, li]) a4.1 (fun i p q => by obtain ⟨a, w1, w2⟩ := a4.2 i p q; exact ⟨_, w1, a, rfl, w2⟩) (x0 := pr) (y0 := .ref tb) ⟨tb, rfl, _, e, xe, ktb', ke', le, eL⟩
      exact ⟨z.1, fun i p q => by obtain ⟨y, w1, a, rfl, w2⟩ := z.2 i p q; exact ⟨a, w1, w2⟩⟩
    rintro _ G4 ⟨s4, ⟨Ts, B4⟩, o2, o3, o4, rfl⟩
    rw [lts, List.take_length] at B4
    clear B3 s3 G3
    -- memories
    walk_at "go"
    refine ⟨d, _, rfl, DGet.k (k := (.inr "memory" : Key)) (s4 _ _ h0), xm, rfl, ⟨_, SqL.of (s4 _ _ h7)⟩, for_listD (xs := ms) (fun i σ G => Same H G ∧ (∃ Ms, StoB K cs G st lf lt lm lv lg li Fs Gs Ts Ms [] ⟨I.f, I.g, I.t, I.m.take i, []⟩) ∧ ∃ o2 o3 o4, σ = [some (.ref d), some (.ref st), o2, o3, o4]) ⟨s4, ⟨_, B4⟩, _, _, _, rfl⟩ (fun i σ G _ h => SqL.of (h.1 _ _ h7)) ?_ ?_⟩
    · rintro i x _ G hx ⟨sG, ⟨Ms, B⟩, o2, o3, o4, rfl⟩
      obtain ⟨dd, ed, dx1⟩ := (h8.same sG).geti hx
      obtain ⟨pr, es, rfl⟩ : ∃ s, I.m[i]? = some s ∧ pD s = dd := by
        rw [List.getElem?_map] at ed
        cases e : I.m[i]? with
        | none => rw [e] at ed; cases ed
        | some y => rw [e] at ed; cases ed; exact ⟨y, rfl, rfl⟩
      have hi : i < I.m.length := (List.getElem?_eq_some_iff.mp es).1
      obtain ⟨t, y1, y2, rfl, ht, j1, j2⟩ := Dt.two dx1
      cases j1.vint
      cases j2.vint
      have lM := B.M.1
      simp only [List.length_take] at lM
      obtain ⟨dxs, sto⟩ := B.sto
      walk_at "go"
      refine ⟨st, _, dxs, _, _, rfl, sto, T.cl_Store, T.n_Store_memories, lk_Store_memories, .inl ⟨rfl, _, SqL.of B.km⟩, ?_⟩
      walk_at "go"
      intro tb dtb ntb ndtb nxtb
      refine ⟨tb, dtb, pr.1, pr.2, rfl, upd_same, fun G4 ktb b4 => ⟨rfl, ?_⟩⟩
      have s4 := made_same ntb ndtb b4
      have B4 := B.mono s4
      walk_at "go"
      refine ⟨_, _, _, rfl, rfl, B4.km, small64' (by omega), ?_⟩
      generalize x4 : upd G4 lm _ = G'
      have b : SameBut [lm] G4 G' := by subst x4; exact (SameBut.refl _).upd (List.mem_singleton.mpr rfl)
      have k : G' lm = some (.lst (Ms ++ [.ref tb])) := by subst x4; exact upd_same
      clear x4
      obtain ⟨c, a1, a2, a3, a4, a5, a6⟩ := B4.fr mm B4.km b
      walk_at "go"
      obtain ⟨dx2, dd2, ktb⟩ := ktb
      have ktb' : Mem cs G' tb pr.1 pr.2 := ⟨dx2, dd2, b _ _ (fun z => ne_lst ktb B4.km (fun _ z => nomatch z) (List.mem_singleton.mp z)) ktb⟩
      refine ⟨Same.of_but (sG.trans s4) b fun l hl => fresh l (by rw [List.mem_singleton.mp hl]; exact mm), ⟨Ms ++ [.ref tb], a1, c _ _ n2 B4.kf, c _ _ (Ne.symm n11) B4.kg, c _ _ n6 B4.kt, k, c _ _ (Ne.symm n10) B4.kv, c _ _ (Ne.symm n12) B4.ki, a2, a3, a4, ?_, a6⟩, _, _, _, rfl⟩
      show (Ms ++ [V.ref tb]).length = (I.m.take (i + 1)).length ∧ _
      rw [take_snoc es]
      have z := snoc_get (R := fun (p : Int × Int) (y : V) => ∃ a : Addr, y = .ref a ∧ Mem cs G' a p.1 p.2) a5.1 (fun i p q => by obtain ⟨a, w1, w2⟩ := a5.2 i p q; exact ⟨_, w1, a, rfl, w2⟩) (x0 := pr) (y0 := .ref tb) ⟨tb, rfl, ktb'⟩
      exact ⟨z.1, fun i p q => by obtain ⟨y, w1, a, rfl, w2⟩ := z.2 i p q; exact ⟨a, w1, w2⟩⟩
    rintro _ G5 ⟨s5, ⟨Ms, B5⟩, o2, o3, o4, rfl⟩
    rw [lms, List.take_length] at B5
    clear B4 s4 G4
    -- globals
    walk_at "go"
    refine ⟨d, _, rfl, DGet.k (k := (.inr "global" : Key)) (s5 _ _ h0), xv, rfl, ⟨_, SqL.of (s5 _ _ h9)⟩, for_listD (xs := us) (fun i σ G => Same H G ∧ (∃ Us, StoB K cs G st lf lt lm lv lg li Fs Gs Ts Ms Us ⟨I.f, I.g, I.t, I.m, I.v.take i⟩) ∧ ∃ o2 o3 o4, σ = [some (.ref d), some (.ref st), o2, o3, o4]) ⟨s5, ⟨_, B5⟩, _, _, _, rfl⟩ (fun i σ G _ h => SqL.of (h.1 _ _ h9)) ?_ ?_⟩
    · rintro i x _ G hx ⟨sG, ⟨Us, B⟩, o2, o3, o4, rfl⟩
      obtain ⟨dd, ed, dx1⟩ := (h10.same sG).geti hx
      obtain ⟨pr, es, rfl⟩ : ∃ s, I.v[i]? = some s ∧ vD s = dd := by
        rw [List.getElem?_map] at ed
        cases e : I.v[i]? with
        | none => rw [e] at ed; cases ed
        | some y => rw [e] at ed; cases ed; exact ⟨y, rfl, rfl⟩
      have hi : i < I.v.length := (List.getElem?_eq_some_iff.mp es).1
      obtain ⟨t, y1, y2, rfl, ht, j1, j2⟩ := Dt.two dx1
      cases j1.vstr
      cases j2.vbl
      have lU := B.U.1
      simp only [List.length_take] at lU
      obtain ⟨dxs, sto⟩ := B.sto
      walk_at "go"
      refine ⟨st, _, dxs, _, _, rfl, sto, T.cl_Store, T.n_Store_variables, lk_Store_variables, .inl ⟨rfl, _, SqL.of B.kv⟩, ?_⟩
      walk_at "go"
      intro tb dtb ntb ndtb nxtb
      refine ⟨tb, dtb, pr.1, pr.2, 0, rfl, upd_same, fun G4 ktb b4 => ⟨rfl, ?_⟩⟩
      have s4 := made_same ntb ndtb b4
      have B4 := B.mono s4
      walk_at "go"
      refine ⟨_, _, _, rfl, rfl, B4.kv, small64' (by omega), ?_⟩
      generalize x4 : upd G4 lv _ = G'
      have b : SameBut [lv] G4 G' := by subst x4; exact (SameBut.refl _).upd (List.mem_singleton.mpr rfl)
      have k : G' lv = some (.lst (Us ++ [.ref tb])) := by subst x4; exact upd_same
      clear x4
      obtain ⟨c, a1, a2, a3, a4, a5, a6⟩ := B4.fr mv B4.kv b
      walk_at "go"
      obtain ⟨dx2, ktb⟩ := ktb
      have ktb' : Glo cs G' tb pr.1 pr.2 0 := ⟨dx2, b _ _ (fun z => ne_lst ktb B4.kv (fun _ z => nomatch z) (List.mem_singleton.mp z)) ktb⟩
      refine ⟨Same.of_but (sG.trans s4) b fun l hl => fresh l (by rw [List.mem_singleton.mp hl]; exact mv), ⟨Us ++ [.ref tb], a1, c _ _ n3 B4.kf, c _ _ (Ne.symm n13) B4.kg, c _ _ n7 B4.kt, c _ _ n10 B4.km, k, c _ _ (Ne.symm n14) B4.ki, a2, a3, a4, a5, ?_⟩, _, _, _, rfl⟩
      show (Us ++ [V.ref tb]).length = (I.v.take (i + 1)).length ∧ _
      rw [take_snoc es]
      have z := snoc_get (R := fun (p : Str × Bool) (y : V) => ∃ a : Addr, y = .ref a ∧ Glo cs G' a p.1 p.2 0) a6.1 (fun i p q => by obtain ⟨a, w1, w2⟩ := a6.2 i p q; exact ⟨_, w1, a, rfl, w2⟩) (x0 := pr) (y0 := .ref tb) ⟨tb, rfl, ktb'⟩
      exact ⟨z.1, fun i p q => by obtain ⟨y, w1, a, rfl, w2⟩ := z.2 i p q; exact ⟨a, w1, w2⟩⟩
    rintro _ G6 ⟨s6, ⟨Us, B6⟩, o2, o3, o4, rfl⟩
    rw [lus, List.take_length] at B6
    walk_at "go"
    refine q st G6 s6 ⟨lf, lt, lm, lv, lg, li, Fs, Ts, Ms, Us, Gs, B6.sto, B6.kf, B6.F, B6.kg, B6.G, B6.kt, B6.T.1, fun i p z => ?_, B6.km, B6.M.1, B6.M.2, B6.kv, B6.U.1, B6.U.2, B6.ki⟩
    obtain ⟨a, w1, dx', e, xs, w2, w3, w4, _⟩ := B6.T.2 i p z
    exact ⟨a, w1, dx', e, xs, w2, w3, w4⟩
theorem c__law_imports (D : Def K mg "_law_imports" s__law_imports ["tape", "names", "items"]) (T : Tp w K mg cs) (c__law_draw : Cal P w K mg base CX0 1 "_law_draw" (sp__law_draw K cs)) (c__law_pair : Cal P w K mg base CX0 2 "_law_pair" (sp__law_pair K cs)) (c__law_what : Cal P w K mg base CX0 2 "_law_what" (sp__law_what K cs)) : Cal P w K mg base CX0 3 "_law_imports" (sp__law_imports K cs) := by
  refine D.ok sc__law_imports (fun vs H Q E h => ?_) (fun f cdv A outer s H vs Q E hr h => ?_)
  · obtain ⟨a, nl, d, ts, xs, ns, I, rfl, _⟩ := h; rfl
  · obtain ⟨a, nl, d, ts, xs, ns, I, rfl, hS, hN, hD, hok, lns, hd, hg, q⟩ := h
    have lx := hD.len
    rw [List.length_map] at lx
    refine ⟨_, (pss_cons (ps_set (i := 3) sc__law_imports.nd rfl (by first | exact Or.inl rfl | exact Or.inr rfl) (pe_lst pa_nil))
      (pss_cons (ps_for PassesOwn.never rfl (pi_range1 (by rfl) T.m_range (pa_cons (pe_c c__law_draw hr (by decide) (by rfl) (pa_cons (pv 0) (pa_cons pe_int (pa_cons pe_int pa_nil)))) pa_nil)) (pg_name (i := 4) sc__law_imports.nd rfl (by first | exact Or.inl rfl | exact Or.inr rfl)) (pss_cons (ps_set (i := 5) sc__law_imports.nd rfl (by first | exact Or.inl rfl | exact Or.inr rfl) (pe_op op_add pe_int (pe_op op_mul pe_int (pv 4))))
      (pss_cons (ps_set (i := 6) sc__law_imports.nd rfl (by first | exact Or.inl rfl | exact Or.inr rfl) (pe_c c__law_pair hr (by decide) (by rfl) (pa_cons (pv 0) (pa_cons (pv 5) pa_nil))))
      (pss_cons (ps_set (i := 7) sc__law_imports.nd rfl (by first | exact Or.inl rfl | exact Or.inr rfl) (pe_ix ix_list (pe_lst (pa_cons pe_str (pa_cons pe_str (pa_cons pe_str (pa_cons pe_str (pa_cons pe_str pa_nil)))))) (pe_c c__law_draw hr (by decide) (by rfl) (pa_cons (pv 0) (pa_cons (pe_op op_add (pv 5) pe_int) (pa_cons pe_int pa_nil)))) (fun _ _ => rfl)))
      (pss_cons (ps_set (i := 8) sc__law_imports.nd rfl (by first | exact Or.inl rfl | exact Or.inr rfl) pe_int)
      (pss_cons (ps_for PassesOwn.never rfl (pi_list (pv 1)) (pg_name (i := 9) sc__law_imports.nd rfl (by first | exact Or.inl rfl | exact Or.inr rfl)) (pss_one (ps_if (PW.pt (pw_and (pt_cmpR op_eq (pe_ix ix_tup (pv 9) pe_int (fun _ _ => rfl)) (pe_ix ix_tup (pv 6) pe_int (fun _ _ => rfl)) (by first | rfl | exact nomark _)) (pw_and (pt_cmpR op_eq (pe_ix ix_tup (pv 9) pe_int (fun _ _ => rfl)) (pe_ix ix_tup (pv 6) pe_int (fun _ _ => rfl)) (by first | rfl | exact nomark _)) (pw_and1 (pt_cmpR op_gt (pe_c c__law_draw hr (by decide) (by rfl) (pa_cons (pv 0) (pa_cons (pe_op op_add (pv 5) pe_int) (pa_cons pe_int pa_nil)))) pe_int (by first | rfl | exact nomark _)))))) (pss_cons (ps_set (i := 7) sc__law_imports.nd rfl (by first | exact Or.inl rfl | exact Or.inr rfl) (pe_ix ix_tup (pv 9) pe_int (fun _ _ => rfl)))
      (pss_one (ps_set (i := 8) sc__law_imports.nd rfl (by first | exact Or.inl rfl | exact Or.inr rfl) (pe_ix ix_tup (pv 9) pe_int (fun _ _ => rfl))))) pss_nil)))
      (C8.pss_cut (ps_if (PW.pt (pw_and (pt_cmpR op_eq (pv 7) pe_str (by first | rfl | exact nomark _)) (pw_and1 (pt_cmpR op_gt (pe_callB call_len_seq (by rfl) T.m_len PySem.boot_len (pa_cons (pe_lc (own := [("row", 10)]) (g := gName 10) (tt := _) (by rfl) sc__law_imports.nd (pi_list (pv 3)) (blkOk_by (own := [("row", 10)]) (N := ["tape", "names", "items", "rows", "k", "base", "pair", "kind", "number", "name", "row"]) (sc := defScope s__law_imports) (by decide +kernel)) (fun _ _ _ _ _ => (pg_name (i := 10) sc__law_imports.nd rfl (by first | exact Or.inl rfl | exact Or.inr rfl))) (fun _ _ _ _ _ => pts_one (pt_cmpR op_eq (pe_ix ix_tupB (pv 10) pe_int (fun _ _ => rfl)) pe_str (by first | rfl | exact nomark _))) (fun _ _ _ _ _ => (pv 10))) pa_nil)) pe_int (by first | rfl | exact nomark _))))) (pss_cons (ps_set (i := 7) sc__law_imports.nd rfl (by first | exact Or.inl rfl | exact Or.inr rfl) pe_str)
      (pss_one (ps_set (i := 8) sc__law_imports.nd rfl (by first | exact Or.inl rfl | exact Or.inr rfl) pe_int))) pss_nil)
      (pss_one (ps_expr (pe_bm PySem.F.plainAttrs_list PySem.F.slot_list_append PySem.F.type_list_append mt_append (pv 3) (pa_cons (pe_op op_catT (pv 6) (pe_tup (pa_cons (pv 7) (pa_cons (pe_c c__law_what hr (by decide) (by rfl) (pa_cons (pv 0) (pa_cons (pe_op op_add (pv 5) pe_int) (pa_cons (pv 7) (pa_cons (pe_ix ix_list (pe_dget (hu1 hr) (pv 2) (pv 7) (fun _ _ => rfl)) (pv 8) (fun _ _ => rfl)) pa_nil))))) pa_nil)))) pa_nil)))))))))))
      (pss_one (ps_ret (pv 3))))), ?_⟩
    walk_at "go"
    intro R hR
    generalize e1 : upd H R _ = H1
    obtain ⟨s1, k1⟩ := newO hR e1
    clear e1
    walk_at "go"
    refine ⟨a, ts, 60, 9, rfl, s1.seq hS, ⟨by decide, by decide⟩, by decide, fun n n0 n1 => ?_⟩
    obtain ⟨n, rfl⟩ := Int.eq_ofNat_of_zero_le n0
    walk_at "go"
    refine for_rangeD (lo := 0) (n := n) (fun i σ G => Same H G ∧ (∃ ys rs, G R = some (.lst ys) ∧ DtA K G ys (rs.map Rw.d) ∧ (∀ r ∈ rs, Rw.ok r ∧ r.w.of shs r.kd) ∧ rs.length ≤ i) ∧ ∃ o4 o5 o6 o7 o8 o9 o10, σ = [some (.ref a), some (.ref nl), some (.ref d), some (.ref R), o4, o5, o6, o7, o8, o9, o10])
      ⟨s1, ⟨[], [], k1, .nil, (fun _ z => nomatch z), Nat.le_refl _⟩, _, _, _, _, _, _, _, rfl⟩ ?_ ?_
    · rintro i _ G hi ⟨sG, ⟨ys, rs, kR, dR, okR, lR⟩, o4, o5, o6, o7, o8, o9, o10, rfl⟩
      rw [Int.zero_add]
      walk_at "go"
      refine ⟨a, ts, 61 + 8 * (i : Int), rfl, sG.seq hS, ⟨by omega, by omega⟩, fun pv m nm G2 s2 dp om on => ?_⟩
      obtain ⟨p0, y1, y2, rfl, hp0, j1, j2⟩ := Dt.two dp
      cases j1.vstr
      cases j2.vstr
      walk_at "go"
      intro e1 h1
      generalize x1 : upd G2 e1 _ = G3
      obtain ⟨s3, k3⟩ : Same G2 G3 ∧ G3 e1 = some (.lst (kdK.map V.str)) := by subst x1; exact ⟨Same.new h1, upd_same⟩
      clear x1
      walk_at "go"
      have S3 := sG.trans (s2.trans s3)
      refine ⟨a, ts, 61 + 8 * (i : Int) + 2, 5, rfl, S3.seq hS, ⟨by omega, by omega⟩, by decide, fun u u0 u1 => ?_⟩
      obtain ⟨kd0, ek0, hk0⟩ := at_kdL u0 u1
      refine ⟨e1, _, _, _, rfl, rfl, SqL.of k3, ek0, ?_⟩
      walk_at "go"
      have hp3 := Same.ti (K := K) s3 _ _ hp0
      refine ⟨⟨_, S3.seq hN⟩, for_listD (xs := xs) (fun i' σ G' => G3 = G' ∧ ∃ (kd : Str) (num : Nat) (o9 o10 : Option V), kd ∈ kdL ∧ num < (I.all kd).length ∧ σ = [some (.ref a), some (.ref nl), some (.ref d), some (.ref R), some (.int (i : Int)), some (.int (61 + 8 * (i : Int))), some (.ref p0), some (.str kd), some (.int (num : Int)), o9, o10])
        ⟨rfl, kd0, 0, _, _, hk0, by have := im_count hg hk0; omega, rfl⟩ (fun i' σ G' _ h => by rw [← h.1]; exact S3.seq hN) ?_ ?_⟩
      · rintro i' x σ G' hx ⟨rfl, kd, num, o9, o10, hk, hnum, rfl⟩
        obtain ⟨dd, ed, dx⟩ := (hD.same S3).geti hx
        obtain ⟨y, ey, rfl⟩ : ∃ y, ns[i']? = some y ∧ Nm.d y = dd := by
          rw [List.getElem?_map] at ed
          cases e : ns[i']? with
          | none => rw [e] at ed; cases ed
          | some y => rw [e] at ed; cases ed; exact ⟨y, rfl, rfl⟩
        have oy := hok y (List.mem_of_getElem? ey)
        obtain ⟨t, v1, v2, v3, v4, rfl, ht4, i1, i2, i3, i4⟩ := Dt.four dx
        cases i1.vstr
        cases i2.vstr
        cases i3.vstr
        cases i4.vint
        walk_at "go"
        refine ite2 (fun c1 => ?_) (fun c1 => ?_)
        · walk_at "go"
          refine ite2 (fun c2 => ?_) (fun c2 => ?_)
          · walk_at "go"
            refine ⟨a, ts, 61 + 8 * (i : Int) + 3, 8, rfl, S3.seq hS, ⟨by omega, by omega⟩, by decide, fun u' u0' u1' => ?_⟩
            walk_at "go"
            refine ite2 (fun c3 => ?_) (fun c3 => ?_)
            · walk_at "go"
              exact ⟨y.kd, y.i, _, _, oy.2.2.1, oy.2.2.2, rfl⟩
            · exact ⟨rfl, kd, num, _, _, hk, hnum, rfl⟩
          · exact ⟨rfl, kd, num, _, _, hk, hnum, rfl⟩
        · exact ⟨rfl, kd, num, _, _, hk, hnum, rfl⟩
      rintro _ G' ⟨rfl, kd, num, o9, o10, hk, hnum, rfl⟩
      have kR3 := s3 _ _ (s2 _ _ kR)
      have dR3 := (dR.same s2).same s3
      refine ⟨fun σ G4 => Same G3 G4 ∧ ∃ (kd : Str) (num : Nat) (o9 o10 : Option V), kd ∈ kdL ∧ num < (I.all kd).length ∧ σ = [some (.ref a), some (.ref nl), some (.ref d), some (.ref R), some (.int (i : Int)), some (.int (61 + 8 * (i : Int))), some (.ref p0), some (.str kd), some (.int (num : Int)), o9, o10], ?_, ?_⟩
      · walk_at "go"
        refine ite2 (fun c1 => ?_) (fun c1 => ?_)
        · walk_at "go"
          refine ⟨⟨_, SqL.of kR3⟩, fun DD hDD => ?_⟩
          refine lcD_list (xs := ys) (j := 10) (fun i => ((rs.take i).filter (fun r => decide (r.kd = ("memory" : Str)))).map Rw.d) hDD (SqL.of kR3) (by have := dR.len; rw [List.length_map] at this; omega) rfl (fun i' x G5 hx s5 => ?_) (fun G5 zs s5 k5 d5 l5 => ?_)
          · intro Y N hY hN'
            obtain ⟨dd, ed, dx⟩ := (dR3.same s5).geti hx
            obtain ⟨r, er, rfl⟩ : ∃ y, rs[i']? = some y ∧ Rw.d y = dd := by
              rw [List.getElem?_map] at ed
              cases e : rs[i']? with
              | none => rw [e] at ed; cases ed
              | some y => rw [e] at ed; cases ed; exact ⟨y, rfl, rfl⟩
            have dx0 := dx
            obtain ⟨t, v1, v2, v3, v4, rfl, ht4, i1, i2, i3, i4⟩ := Dt.four dx
            cases i3.vstr
            walk_at "go"
            refine ite2 (fun c => ?_) (fun c => ?_)
            · walk_at "go"
              exact hY _ _ _ (Same.refl _) dx0 (filt_take_yes _ _ er (by rw [dec_str] at c; exact c))
            · exact hN' _ (Same.refl _) (filt_take_no _ _ er (by rw [dec_str] at c; exact Bool.eq_false_iff.mpr c))
          walk_at "go"
          refine ⟨DD, _, rfl, .inl (SqL.of k5), ?_⟩
          walk_at "go"
          refine ite2 (fun c2 => ?_) (fun c2 => ?_)
          · walk_at "go"
            exact ⟨"global", 0, _, _, by simp [kdL], by have := im_count hg (kd := "global") (by simp [kdL]); omega, rfl⟩
          · exact ⟨s5, kd, num, _, _, hk, hnum, rfl⟩
        · exact ⟨Same.refl _, kd, num, _, _, hk, hnum, rfl⟩
      rintro _ G4 ⟨s4, kd, num, o9, o10, hk, hnum, rfl⟩
      have S4 := S3.trans s4
      have kR4 := s4 _ _ kR3
      have dR4 := dR3.same s4
      have dp4 := (dp.same s3).same s4
      obtain ⟨li, zs, hget, hli, hzs⟩ := (hd.mono S4).get hk
      obtain ⟨im, eim⟩ : ∃ im, (I.all kd)[num]? = some im := ⟨_, List.getElem?_eq_getElem hnum⟩
      walk_at "go"
      refine ⟨.inl ⟨rfl, _, SqL.of kR4⟩, ?_⟩
      walk_at "go"
      refine ⟨d, _, rfl, hget, ?_⟩
      walk_at "go"
      refine ix_Dl (k := num) (SqL.of hli) hzs (by rw [List.getElem?_map, eim]; rfl) fun item hitem => ?_
      walk_at "go"
      refine ⟨a, ts, 61 + 8 * (i : Int) + 4, kd, item, I, num, im, rfl, S4.seq hS, ⟨by omega, by omega⟩, hk, hg, eim, hitem, fun wv w G5 s5 dw how => ?_⟩
      walk_at "go"
      intro t1 ht1
      generalize x6 : upd G5 t1 _ = G6
      obtain ⟨s6, d6⟩ := newT (K := K) ht1 x6 (.cons (.str kd) (.cons dw .nil))
      clear x6
      refine cat_D ((dp4.same s5).same s6) d6 (fun z => nomatch z) (by show 2 + 2 ≤ 1000000; decide) fun t2 G7 s7 d7 => ?_
      walk_at "go"
      have S7 := s5.trans (s6.trans s7)
      have kR7 := S7 _ _ kR4
      have ly := dR.len
      rw [List.length_map] at ly
      refine ⟨_, _, _, rfl, rfl, kR7, small64' (by omega), ?_⟩
      walk_at "go"
      have tt : Ti K G7 (upd G7 R (.lst (ys ++ [V.ref t2]))) := Ti.putL kR7
      refine ⟨fun b o e => ?_, ⟨ys ++ [.ref t2], rs ++ [⟨m, nm, kd, w⟩], upd_same, ?_, fun r hr => ?_, by rw [List.length_append]; exact Nat.add_le_add lR (Nat.le_refl _)⟩, _, _, _, _, _, _, _, rfl⟩
      · rw [upd_ne (ne_of_none e hR)]
        exact S7 _ _ (S4 _ _ e)
      · rw [List.map_append]
        exact ((dR4.same S7).ti tt).snoc (d7.ti tt)
      · rcases List.mem_append.mp hr with z | z
        · exact okR r z
        · rw [List.mem_singleton] at z
          subst z
          exact ⟨⟨om, on, hk⟩, how⟩
    · rintro _ G ⟨sG, ⟨ys, rs, kR, dR, okR, lR⟩, o4, o5, o6, o7, o8, o9, o10, rfl⟩
      walk_at "go"
      exact q R ys rs G sG kR dR okR (by omega)
theorem c__law_due (D : Def K mg "_law_due" s__law_due ["rows", "names", "items"]) (T : Tp w K mg cs) (c__law_fits : Cal P w K mg base CX0 2 "_law_fits" (sp__law_fits K cs)) : Cal P w K mg base CX0 3 "_law_due" (sp__law_due K cs) := by
  refine D.ok sc__law_due (fun vs H Q E h => ?_) (fun f cdv A outer s H vs Q E hr h => ?_)
  · obtain ⟨R, nl, d, xs, ys, ns, rs, I, rfl, _⟩ := h; rfl
  · obtain ⟨R, nl, d, xs, ys, ns, rs, I, rfl, hR, dR, okR, lR, hN, hD, hok, lns, hd, hg, q⟩ := h
    have lx := hD.len
    have ly := dR.len
    rw [List.length_map] at lx ly
    have rowAt : ∀ {G : Hp} {i : Nat} {x : V}, Same H G → ys[i]? = some x → ∃ r t v4, rs[i]? = some r ∧ x = .ref t ∧ SqT K G t [.str r.m, .str r.n, .str r.kd, v4] ∧ Dt K G v4 r.w.d ∧ r.ok ∧ r.w.of shs r.kd := fun {G i x} sG hx => by
      obtain ⟨dd, ed, dx⟩ := (dR.same sG).geti hx
      obtain ⟨r, er, rfl⟩ : ∃ y, rs[i]? = some y ∧ Rw.d y = dd := by
        rw [List.getElem?_map] at ed
        cases e : rs[i]? with
        | none => rw [e] at ed; cases ed
        | some y => rw [e] at ed; cases ed; exact ⟨y, rfl, rfl⟩
      obtain ⟨t, v1, v2, v3, v4, rfl, ht4, i1, i2, i3, i4⟩ := Dt.four dx
      cases i1.vstr
      cases i2.vstr
      cases i3.vstr
      exact ⟨r, t, v4, er, rfl, ht4, i4, okR r (List.mem_of_getElem? er)⟩
    refine ⟨_, (pss_cons (ps_set (i := 3) sc__law_due.nd rfl (by first | exact Or.inl rfl | exact Or.inr rfl) (pe_lst pa_nil))
      (pss_cons (ps_for PassesOwn.never rfl (pi_range1 (by rfl) T.m_range (pa_cons (pe_callB call_len_seq (by rfl) T.m_len PySem.boot_len (pa_cons (pv 0) pa_nil)) pa_nil)) (pg_name (i := 4) sc__law_due.nd rfl (by first | exact Or.inl rfl | exact Or.inr rfl)) (pss_cons (ps_setLc (i := 5) (own := [("name", 6)]) (g := gName 6) (tt := _) (by rfl) sc__law_due.nd rfl rfl (sw_true rfl rfl rfl (by decide +kernel)) (pi_list (pv 1)) (blkOk_by (own := [("name", 6)]) (N := ["rows", "names", "items", "found", "k", "known", "name"]) (sc := defScope s__law_due) (by decide +kernel)) (fun _ _ _ _ _ => (pg_name (i := 6) sc__law_due.nd rfl (by first | exact Or.inl rfl | exact Or.inr rfl))) (fun _ _ _ _ _ => pts_one (PW.pt (pw_and (pt_cmpR op_eq (pe_ix ix_tupB (pv 6) pe_int (fun _ _ => rfl)) (pe_ix ix_tupB (pe_ix ix_listB (pv 0) (pv 4) (fun _ _ => rfl)) pe_int (fun _ _ => rfl)) (by first | rfl | exact nomark _)) (pw_and1 (pt_cmpR op_eq (pe_ix ix_tupB (pv 6) pe_int (fun _ _ => rfl)) (pe_ix ix_tupB (pe_ix ix_listB (pv 0) (pv 4) (fun _ _ => rfl)) pe_int (fun _ _ => rfl)) (by first | rfl | exact nomark _)))))) (fun _ _ _ _ _ => (pv 6)))
      (pss_cons (ps_if (pt_cmpR op_eq (pe_callB call_len_seq (by rfl) T.m_len PySem.boot_len (pa_cons (pv 5) pa_nil)) pe_int (by first | rfl | exact nomark _)) (pss_one (ps_ret (pe_tup (pa_cons pe_str (pa_cons (pv 4) pa_nil))))) pss_nil)
      (pss_one (ps_expr (pe_bm PySem.F.plainAttrs_list PySem.F.slot_list_append PySem.F.type_list_append mt_append (pv 3) (pa_cons (pe_ix ix_list (pv 5) pe_int (fun _ _ => rfl)) pa_nil)))))))
      (pss_cons (ps_for PassesOwn.never rfl (pi_range1 (by rfl) T.m_range (pa_cons (pe_callB call_len_seq (by rfl) T.m_len PySem.boot_len (pa_cons (pv 0) pa_nil)) pa_nil)) (pg_name (i := 4) sc__law_due.nd rfl (by first | exact Or.inl rfl | exact Or.inr rfl)) (pss_cons (ps_if (pt_cmpR op_ne (pe_ix ix_tup (pe_ix ix_list (pv 3) (pv 4) (fun _ _ => rfl)) pe_int (fun _ _ => rfl)) (pe_ix ix_tup (pe_ix ix_list (pv 0) (pv 4) (fun _ _ => rfl)) pe_int (fun _ _ => rfl)) (by first | rfl | exact nomark _)) (pss_one (ps_ret (pe_tup (pa_cons pe_str (pa_cons (pv 4) pa_nil))))) pss_nil)
      (pss_one (ps_if (pt_not (pt_val (pe_c c__law_fits hr (by decide) (by rfl) (pa_cons (pe_ix ix_tup (pe_ix ix_list (pv 0) (pv 4) (fun _ _ => rfl)) pe_int (fun _ _ => rfl)) (pa_cons (pe_ix ix_tup (pe_ix ix_list (pv 0) (pv 4) (fun _ _ => rfl)) pe_int (fun _ _ => rfl)) (pa_cons (pe_ix ix_list (pe_dget (hu1 hr) (pv 2) (pe_ix ix_tup (pe_ix ix_list (pv 0) (pv 4) (fun _ _ => rfl)) pe_int (fun _ _ => rfl)) (fun _ _ => rfl)) (pe_ix ix_tup (pe_ix ix_list (pv 3) (pv 4) (fun _ _ => rfl)) pe_int (fun _ _ => rfl)) (fun _ _ => rfl)) pa_nil)))))) (pss_one (ps_ret (pe_tup (pa_cons pe_str (pa_cons (pv 4) pa_nil))))) pss_nil))))
      (pss_one (ps_ret (pe_tup (pa_cons pe_str (pa_cons (pe_lc (own := [("name", 6)]) (g := gName 6) (tt := tYes) (by rfl) sc__law_due.nd (pi_list (pv 3)) (blkOk_by (own := [("name", 6)]) (N := ["rows", "names", "items", "found", "k", "known", "name"]) (sc := defScope s__law_due) (by decide +kernel)) (fun _ _ _ _ _ => (pg_name (i := 6) sc__law_due.nd rfl (by first | exact Or.inl rfl | exact Or.inr rfl))) (fun _ _ _ _ _ => pts_nil) (fun _ _ _ _ _ => (pe_ix ix_tupB (pv 6) pe_int (fun _ _ => rfl)))) pa_nil)))))))), ?_⟩
    walk_at "go"
    intro F hF
    generalize e1 : upd H F _ = H1
    obtain ⟨s1, k1⟩ := newO hF e1
    clear e1
    walk_at "go"
    refine ⟨R, _, rfl, .inl (s1.seq hR), ?_⟩
    walk_at "go"
    refine for_rangeD (lo := 0) (n := ys.length) (fun i σ G => Same H G ∧ (∃ fs ms, G F = some (.lst fs) ∧ DtA K G fs (ms.map Nm.d) ∧ (rs.take i).map (lkp ns) = ms.map some) ∧ ∃ o4 o5 o6, σ = [some (.ref R), some (.ref nl), some (.ref d), some (.ref F), o4, o5, o6])
      ⟨s1, ⟨[], [], k1, .nil, rfl⟩, _, _, _, rfl⟩ ?_ ?_
    · rintro i _ G hi ⟨sG, ⟨fs, ms, kF, dF, em⟩, o4, o5, o6, rfl⟩
      rw [Int.zero_add]
      have hx : ys[i]? = some ys[i] := List.getElem?_eq_getElem hi
      obtain ⟨r, t, v4, er, ex, _, _, or1, or2⟩ := rowAt sG hx
      walk_at "go"
      refine ⟨⟨_, sG.seq hN⟩, fun DD hDD => ?_⟩
      refine lcD_list (xs := xs) (j := 6) (fun i => ((ns.take i).filter (hit r.m r.n)).map Nm.d) hDD (sG.seq hN) (by omega) rfl (fun i' x G5 hx' s5 => ?_) (fun G5 zs s5 k5 d5 l5 => ?_)
      · intro Y N hY hN'
        obtain ⟨dd, ed, dx⟩ := (hD.same (sG.trans s5)).geti hx'
        obtain ⟨y, ey, rfl⟩ : ∃ y, ns[i']? = some y ∧ Nm.d y = dd := by
          rw [List.getElem?_map] at ed
          cases e : ns[i']? with
          | none => rw [e] at ed; cases ed
          | some y => rw [e] at ed; cases ed; exact ⟨y, rfl, rfl⟩
        have dx0 := dx
        obtain ⟨t2, w1, w2, w3, w4, rfl, ht4, i1, i2, i3, i4⟩ := Dt.four dx
        cases i1.vstr
        cases i2.vstr
        have hx5 := hx
        obtain ⟨r', t', v4', er', ex', hrow, _, _, _⟩ := rowAt (sG.trans s5) hx5
        rw [er] at er'
        cases er'
        have hR5 := (sG.trans s5).seq hR
        have hx6 : ys[i]? = some (V.ref t') := by rw [hx, ex']
        walk_at "go"
        refine ⟨R, _, _, _, rfl, rfl, hR5, atI_nat hx6, ?_⟩
        walk_at "go"
        refine ite2 (fun c1 => ?_) (fun c1 => ?_)
        · walk_at "go"
          refine ⟨R, _, _, _, rfl, rfl, hR5, atI_nat hx6, ?_⟩
          walk_at "go"
          refine ite2 (fun c2 => ?_) (fun c2 => ?_)
          · walk_at "go"
            exact hY _ _ _ (Same.refl _) dx0 (filt_take_yes _ _ ey (by rw [dec_str] at c1 c2; unfold hit; rw [c1, c2]; rfl))
          · exact hN' _ (Same.refl _) (filt_take_no _ _ ey (by rw [dec_str] at c1 c2; unfold hit; rw [c1, Bool.eq_false_iff.mpr c2]; rfl))
        · exact hN' _ (Same.refl _) (filt_take_no _ _ ey (by rw [dec_str] at c1; unfold hit; rw [Bool.eq_false_iff.mpr c1]; rfl))
      have d5 : DtA K G5 zs ((ns.filter (hit r.m r.n)).map Nm.d) := by
        have z := d5
        simp only [lx, List.take_length] at z
        exact z
      have lz := d5.len
      rw [List.length_map] at lz
      walk_at "go"
      refine ⟨DD, _, rfl, .inl (SqL.of k5), ?_⟩
      rw [lz]
      have eh : (ns.filter (hit r.m r.n)).head? = lkp ns r := List.head?_filter ..
      have i0 : ∀ j z, j < i → rs[j]? = some z → (lkp ns z).isNone = false := fun j z hj hz => by
        have e2 : ((rs.take i).map (lkp ns))[j]? = some (lkp ns z) := by rw [List.getElem?_map, List.getElem?_take_of_lt hj, hz]; rfl
        rw [em, List.getElem?_map] at e2
        cases e3 : ms[j]? with
        | none => rw [e3] at e2; cases e2
        | some y => rw [e3] at e2; rw [← Option.some.inj e2]; rfl
      cases ef : ns.filter (hit r.m r.n) with
      | nil =>
        rw [ef] at eh
        walk_at "go"
        intro t3 ht3
        refine q _ _ (sG.trans (s5.trans (Same.new ht3))) ?_
        rw [show oc I shs ns rs = .miss i by unfold oc; rw [findIdx_at (p := fun r => (lkp ns r).isNone) er (by rw [← eh]; rfl) i0]]
        exact ⟨t3, rfl, SqT.of upd_same⟩
      | cons y0 rest =>
        rw [ef] at eh d5
        walk_at "go"
        have kF5 := s5 _ _ kF
        refine ⟨.inl ⟨rfl, _, SqL.of kF5⟩, ?_⟩
        walk_at "go"
        refine ix_Dl (k := 0) (SqL.of k5) d5 rfl fun y hy => ?_
        walk_at "go"
        have lf := dF.len
        rw [List.length_map] at lf
        have lm : ms.length ≤ i := by
          have := congrArg List.length em
          rw [List.length_map, List.length_map, List.length_take] at this
          omega
        refine ⟨_, _, _, rfl, rfl, kF5, small64' (by omega), ?_⟩
        walk_at "go"
        have tt : Ti K G5 (upd G5 F (.lst (fs ++ [y]))) := Ti.putL kF5
        refine ⟨fun b o e => ?_, ⟨fs ++ [y], ms ++ [y0], upd_same, ?_, ?_⟩, _, _, _, rfl⟩
        · rw [upd_ne (ne_of_none e hF)]
          exact s5 _ _ (sG _ _ e)
        · rw [List.map_append]
          exact ((dF.same s5).ti tt).snoc (hy.ti tt)
        · rw [map_take_snoc (lkp ns) er, em, List.map_append, ← eh]; rfl
    rintro _ G ⟨sG, ⟨fs, ms, kF, dF, em⟩, o4, o5, o6, rfl⟩
    rw [ly, List.take_length] at em
    have lf := dF.len
    rw [List.length_map] at lf
    have lms : rs.length = ms.length := by have := congrArg List.length em; rw [List.length_map, List.length_map] at this; exact this
    have at2 : ∀ {j : Nat} {r : Rw}, rs[j]? = some r → ∃ y, ms[j]? = some y ∧ lkp ns r = some y := fun {j r} hr => by
      have e2 : (rs.map (lkp ns))[j]? = some (lkp ns r) := by rw [List.getElem?_map, hr]; rfl
      rw [em, List.getElem?_map] at e2
      cases e3 : ms[j]? with
      | none => rw [e3] at e2; cases e2
      | some y => rw [e3] at e2; exact ⟨y, rfl, (Option.some.inj e2).symm⟩
    have i1 : rs.findIdx? (fun r => (lkp ns r).isNone) = none := findIdx_no (p := fun r => (lkp ns r).isNone) fun j z hj hz => by
      obtain ⟨y, _, e⟩ := at2 hz
      rw [e]; rfl
    walk_at "go"
    refine ⟨R, _, rfl, .inl (sG.seq hR), ?_⟩
    walk_at "go"
    refine for_rangeD (lo := 0) (n := ys.length) (fun i σ G2 => Same G G2 ∧ (∀ j r, j < i → rs[j]? = some r → fitR I shs ns r = true) ∧ ∃ o4 o5 o6, σ = [some (.ref R), some (.ref nl), some (.ref d), some (.ref F), o4, o5, o6])
      ⟨Same.refl _, fun j _ hj => absurd hj (by omega), _, _, _, rfl⟩ ?_ ?_
    · rintro i _ G2 hi ⟨s2, hfit, o4, o5, o6, rfl⟩
      rw [Int.zero_add]
      have hx : ys[i]? = some ys[i] := List.getElem?_eq_getElem hi
      obtain ⟨r, t, v4, er, ex, hrow, dw, or1, or2⟩ := rowAt (sG.trans s2) hx
      rw [ex] at hx
      obtain ⟨y, ey, el⟩ := at2 er
      have hR2 := (sG.trans s2).seq hR
      have oy := hok y (lkp_mem el)
      obtain ⟨u, eu, du⟩ := (dF.same s2).get (k := i) (by rw [List.getElem?_map, ey]; rfl)
      obtain ⟨t2, w1, w2, w3, w4, rfl, hft, i1', i2', i3', i4'⟩ := Dt.four du
      cases i3'.vstr
      cases i4'.vint
      have kF2 := s2 _ _ kF
      have unf : fitR I shs ns r = false → ∀ t3 G3, Same G2 G3 → SqT K G3 t3 [.str "unfit", .int (i : Int)] → Q (.ref t3) G3 := fun ev t3 G3 s3 h3 => by
        refine q _ _ (sG.trans (s2.trans s3)) ?_
        rw [show oc I shs ns rs = .unfit i by unfold oc; rw [i1]; show (match rs.findIdx? (fun r => !fitR I shs ns r) with | some k => Oc.unfit k | none => Oc.found (rs.map (numR ns))) = _; rw [findIdx_at (p := fun r => !fitR I shs ns r) er (by rw [ev]; rfl) (fun j z hj hz => by rw [hfit j z hj hz]; rfl)]]
        exact ⟨t3, rfl, h3⟩
      walk_at "go"
      refine ⟨F, _, _, _, rfl, rfl, SqL.of kF2, atI_nat eu, ?_⟩
      walk_at "go"
      refine ⟨R, _, _, _, rfl, rfl, hR2, atI_nat hx, ?_⟩
      walk_at "go"
      by_cases ek : y.kd = r.kd
      · refine ifNeS ek ?_
        obtain ⟨im, eim⟩ : ∃ im, (I.all r.kd)[y.i]? = some im := ⟨_, List.getElem?_eq_getElem (by rw [← ek]; exact oy.2.2.2)⟩
        obtain ⟨l2, zs, hget, hl2, hzs⟩ := (hd.mono (sG.trans s2)).get or1.2.2
        have ef : fitR I shs ns r = im.fits shs r.w := by
          unfold fitR
          rw [el]
          show (decide (y.kd = r.kd) && _) = _
          rw [eim, decide_eq_true ek]
          rfl
        walk_at "go"
        refine ⟨R, _, _, _, rfl, rfl, hR2, atI_nat hx, ?_⟩
        walk_at "go"
        refine ⟨R, _, _, _, rfl, rfl, hR2, atI_nat hx, ?_⟩
        walk_at "go"
        refine ⟨R, _, _, _, rfl, rfl, hR2, atI_nat hx, ?_⟩
        walk_at "go"
        refine ⟨d, _, rfl, hget, ?_⟩
        walk_at "go"
        refine ⟨F, _, _, _, rfl, rfl, SqL.of kF2, atI_nat eu, ?_⟩
        walk_at "go"
        refine ix_Dl (k := y.i) (SqL.of hl2) hzs (by rw [List.getElem?_map, eim]; rfl) fun item hitem => ?_
        walk_at "go"
        refine ⟨r.kd, v4, item, I, y.i, im, r.w, rfl, or1.2.2, hg, eim, hitem, dw, or2, fun G3 s3 => ?_⟩
        rw [← ef]
        cases ev : fitR I shs ns r with
        | false =>
          walk_at "go"
          intro t3 ht3
          exact unf ev t3 _ (s3.trans (Same.new ht3)) (SqT.of upd_same)
        | true =>
          walk_at "go"
          refine ⟨s2.trans s3, fun j z hj hz => ?_, _, _, _, rfl⟩
          rcases Nat.lt_succ_iff_lt_or_eq.mp hj with l | rfl
          · exact hfit j z l hz
          · rw [er] at hz; cases hz; exact ev
      · refine ifNeSN ek ?_
        walk_at "go"
        intro t3 ht3
        refine unf ?_ t3 _ (Same.new ht3) (SqT.of upd_same)
        unfold fitR
        rw [el]
        show (decide (y.kd = r.kd) && _) = _
        rw [decide_eq_false ek]
        rfl
    · rintro _ G2 ⟨s2, hfit, o4, o5, o6, rfl⟩
      have kF2 := s2 _ _ kF
      have dF2 := dF.same s2
      walk_at "go"
      refine ⟨⟨_, SqL.of kF2⟩, fun DD hDD => ?_⟩
      refine lcD_list (xs := fs) (j := 6) (fun i => (ms.take i).map fun x => PyData.int (x.i : Int)) hDD (SqL.of kF2) (by omega) rfl (fun i' x G5 hx' s5 => ?_) (fun G5 zs s5 k5 d5 l5 => ?_)
      · intro Y N hY hN'
        obtain ⟨dd, ed, dx⟩ := (dF2.same s5).geti hx'
        obtain ⟨y, ey, rfl⟩ : ∃ y, ms[i']? = some y ∧ Nm.d y = dd := by
          rw [List.getElem?_map] at ed
          cases e : ms[i']? with
          | none => rw [e] at ed; cases ed
          | some y => rw [e] at ed; cases ed; exact ⟨y, rfl, rfl⟩
        obtain ⟨t2, w1, w2, w3, w4, rfl, ht4, i1', i2', i3', i4'⟩ := Dt.four dx
        cases i4'.vint
        walk_at "go"
        exact hY _ _ _ (Same.refl _) (.int _) (map_take_snoc _ ey)
      have ez : zs = (rs.map (numR ns)).map V.int := by
        have z : DtA K G5 zs ((rs.map (numR ns)).map PyData.int) := by
          have z := d5
          simp only [lf, List.take_length] at z
          have e3 : ms.map (fun x => PyData.int (x.i : Int)) = (rs.map (numR ns)).map PyData.int := by
            refine List.ext_getElem? fun j => ?_
            rw [List.getElem?_map, List.getElem?_map, List.getElem?_map]
            cases er : rs[j]? with
            | none =>
              have : ms[j]? = none := List.getElem?_eq_none (by have := List.getElem?_eq_none_iff.mp er; omega)
              rw [this]; rfl
            | some r =>
              obtain ⟨y, ey, el⟩ := at2 er
              rw [ey]
              show some (PyData.int (y.i : Int)) = some (PyData.int (numR ns r))
              unfold numR
              rw [el]
          rw [e3] at z
          exact z
        exact z.vints
      subst ez
      walk_at "go"
      intro t3 ht3
      refine q _ _ (sG.trans (s2.trans (s5.trans (Same.new ht3)))) ?_
      rw [show oc I shs ns rs = .found (rs.map (numR ns)) by unfold oc; rw [i1]; show (match rs.findIdx? (fun r => !fitR I shs ns r) with | some k => Oc.unfit k | none => Oc.found (rs.map (numR ns))) = _; rw [findIdx_no (p := fun r => !fitR I shs ns r) fun j y hj hy => by rw [hfit j y (by omega) hy]; rfl]]
      exact ⟨t3, DD, rfl, SqT.of upd_same, Same.new ht3 _ _ k5⟩
theorem c_law {f : Addr} {fd : FuncData} (D : L2.Fun K "law" "law" s_law f fd) (T : Tp w K mg cs) (c__law_tape : Cal P w K mg base CX0 1 "_law_tape" (sp__law_tape K cs)) (c__law_items : Cal P w K mg base CX0 2 "_law_items" (sp__law_items K cs)) (c__law_store : Cal P w K mg base CX0 5 "_law_store" (sp__law_store K cs)) (c__law_imports : Cal P w K mg base CX0 3 "_law_imports" (sp__law_imports K cs)) (c_Module___init__ : CalK P w K mg base CX0 (Cs.C_Module cs) 1 (sp_Module___init__ K cs) ["signatures", "imports"] (fun vs zs => vs ++ (zs ++ (ms_Module cs).map (·.2)))) (c__law_answer : Cal P w K mg base CX0 4 "_law_answer" (sp__law_answer K cs)) (c__law_due : Cal P w K mg base CX0 3 "_law_due" (sp__law_due K cs)) (c__law_draw : Cal P w K mg base CX0 1 "_law_draw" (sp__law_draw K cs)) (c__law_pair : Cal P w K mg base CX0 2 "_law_pair" (sp__law_pair K cs)) (c__law_shapes : Cal P w K mg base CX0 1 "_law_shapes" (sp__law_shapes K cs)) (c__law_is_int : Cal P w K mg base CX0 1 "_law_is_int" (sp__law_is_int K cs)) : FnOk P w K mg base CX0 6 f fd ["script"] (sp_law K cs) := by
  refine D.ok sc_law (fun vs H Q E h => ?_) (fun cdv A outer s H vs Q E hr h => ?_)
  · obtain ⟨a, ns, rfl, _⟩ := h; rfl
  · obtain ⟨a, ns0, rfl, hS, hlen, q⟩ := h
    refine ⟨_, (pss_cons (ps_set (i := 1) sc_law.nd rfl (by first | exact Or.inl rfl | exact Or.inr rfl) (pe_c c__law_tape hr (by decide) (by rfl) (pa_cons (pv 0) pa_nil)))
      (pss_cons (ps_set (i := 2) sc_law.nd rfl (by first | exact Or.inl rfl | exact Or.inr rfl) (pe_c c__law_items hr (by decide) (by rfl) (pa_cons (pv 1) pa_nil)))
      (pss_cons (ps_set (i := 3) sc_law.nd rfl (by first | exact Or.inl rfl | exact Or.inr rfl) (pe_c c__law_store hr (by decide) (by rfl) (pa_cons (pv 2) pa_nil)))
      (pss_cons (ps_set (i := 4) sc_law.nd rfl (by first | exact Or.inl rfl | exact Or.inr rfl) (pe_lst pa_nil))
      (pss_cons (ps_for PassesOwn.never rfl (pi_range1 (by rfl) T.m_range (pa_cons (pe_c c__law_draw hr (by decide) (by rfl) (pa_cons (pv 1) (pa_cons pe_int (pa_cons pe_int pa_nil)))) pa_nil)) (pg_name (i := 5) sc_law.nd rfl (by first | exact Or.inl rfl | exact Or.inr rfl)) (pss_cons (ps_set (i := 11) sc_law.nd rfl (by first | exact Or.inl rfl | exact Or.inr rfl) (pe_op op_add pe_int (pe_op op_mul pe_int (pv 5))))
      (pss_cons (ps_set (i := 12) sc_law.nd rfl (by first | exact Or.inl rfl | exact Or.inr rfl) (pe_c c__law_pair hr (by decide) (by rfl) (pa_cons (pv 1) (pa_cons (pv 11) pa_nil))))
      (pss_cons (ps_set (i := 13) sc_law.nd rfl (by first | exact Or.inl rfl | exact Or.inr rfl) (pe_ix ix_list (pe_lst (pa_cons pe_str (pa_cons pe_str (pa_cons pe_str (pa_cons pe_str (pa_cons pe_str pa_nil)))))) (pe_c c__law_draw hr (by decide) (by rfl) (pa_cons (pv 1) (pa_cons (pe_op op_add (pv 11) pe_int) (pa_cons pe_int pa_nil)))) (fun _ _ => rfl)))
      (pss_cons (ps_set (i := 14) sc_law.nd rfl (by first | exact Or.inl rfl | exact Or.inr rfl) (pe_c c__law_draw hr (by decide) (by rfl) (pa_cons (pv 1) (pa_cons (pe_op op_add (pv 11) pe_int) (pa_cons (pe_callB call_len_seq (by rfl) T.m_len PySem.boot_len (pa_cons (pe_dget (hu1 hr) (pv 2) (pv 13) (fun _ _ => rfl)) pa_nil)) pa_nil)))))
      (pss_one (ps_set (i := 4) sc_law.nd rfl (by first | exact Or.inl rfl | exact Or.inr rfl) (pe_op op_cat (pe_lc (own := [("name", 15)]) (g := gName 15) (tt := _) (by rfl) sc_law.nd (pi_list (pv 4)) (blkOk_by (own := [("name", 15)]) (N := ["script", "tape", "items", "store", "names", "k", "rows", "module", "passed", "answer", "due", "base", "pair", "kind", "index", "name"]) (sc := defScope s_law) (by decide +kernel)) (fun _ _ _ _ _ => (pg_name (i := 15) sc_law.nd rfl (by first | exact Or.inl rfl | exact Or.inr rfl))) (fun _ _ _ _ _ => pts_one (PW.pt (pw_or (pt_cmpR op_ne (pe_ix ix_tupB (pv 15) pe_int (fun _ _ => rfl)) (pe_ix ix_tupB (pv 12) pe_int (fun _ _ => rfl)) (by first | rfl | exact nomark _)) (pw_or1 (pt_cmpR op_ne (pe_ix ix_tupB (pv 15) pe_int (fun _ _ => rfl)) (pe_ix ix_tupB (pv 12) pe_int (fun _ _ => rfl)) (by first | rfl | exact nomark _)))))) (fun _ _ _ _ _ => (pv 15))) (pe_lst (pa_cons (pe_op op_catT (pv 12) (pe_tup (pa_cons (pv 13) (pa_cons (pv 14) pa_nil)))) pa_nil))))))))))
      (pss_cons (ps_set (i := 6) sc_law.nd rfl (by first | exact Or.inl rfl | exact Or.inr rfl) (pe_c c__law_imports hr (by decide) (by rfl) (pa_cons (pv 1) (pa_cons (pv 4) (pa_cons (pv 2) pa_nil)))))
      (pss_cons (ps_set (i := 7) sc_law.nd rfl (by first | exact Or.inl rfl | exact Or.inr rfl) (pe_nk c_Module___init__ hr (by decide) (by rfl) T.g_Module (pk_cons (pe_c0 c__law_shapes hr (by decide) (by rfl)) (pk_cons (pe_callTy call_tuple_of (by rfl) T.m_tuple (by decide +kernel) (pa_cons (pv 6) pa_nil)) pk_nil))))
      (pss_cons (ps_set (i := 8) sc_law.nd rfl (by first | exact Or.inl rfl | exact Or.inr rfl) (pe_callTy call_list_of (by rfl) T.m_list (by decide +kernel) (pa_cons (pv 4) pa_nil)))
      (pss_cons (ps_set (i := 9) sc_law.nd rfl (by first | exact Or.inl rfl | exact Or.inr rfl) (pe_c c__law_answer hr (by decide) (by rfl) (pa_cons (pv 3) (pa_cons (pv 8) (pa_cons (pv 7) pa_nil)))))
      (pss_cons (ps_if (PW.pt (pw_or (pt_cmpR (op_neD (hu64 hr)) (pv 8) (pv 4) (by first | rfl | exact nomark _)) (pw_or (pt_cmpR op_ne (pe_callB call_len_seq (by rfl) T.m_len PySem.boot_len (pa_cons (pe_fld (pv 3) rfl) pa_nil)) pe_int (by first | rfl | exact nomark _)) (pw_or (pt_cmpR op_ne (pe_callB call_len_seq (by rfl) T.m_len PySem.boot_len (pa_cons (pe_fld (pv 3) rfl) pa_nil)) pe_int (by first | rfl | exact nomark _)) (pw_or1 (pt_cmpR op_ne (pe_callB call_len_seq (by rfl) T.m_len PySem.boot_len (pa_cons (pe_fld (pv 3) rfl) pa_nil)) pe_int (by first | rfl | exact nomark _))))))) (pss_one (ps_ret pe_bl)) pss_nil)
      (pss_cons (ps_set (i := 10) sc_law.nd rfl (by first | exact Or.inl rfl | exact Or.inr rfl) (pe_c c__law_due hr (by decide) (by rfl) (pa_cons (pv 6) (pa_cons (pv 4) (pa_cons (pv 2) pa_nil)))))
      (pss_cons (ps_if (pt_cmpR op_ne (pe_ix ix_tup (pv 9) pe_int (fun _ _ => rfl)) (pe_ix ix_tup (pv 10) pe_int (fun _ _ => rfl)) (by first | rfl | exact nomark _)) (pss_one (ps_ret pe_bl)) pss_nil)
      (pss_cons (ps_if (pt_cmpR op_ne (pe_ix ix_tup (pv 10) pe_int (fun _ _ => rfl)) pe_str (by first | rfl | exact nomark _)) (pss_one (ps_ret (pe_and (pe_c c__law_is_int hr (by decide) (by rfl) (pa_cons (pe_ix ix_or2 (pe_ix ix_tup (pv 9) pe_int (fun _ _ => rfl)) pe_int (fun _ _ => rfl)) pa_nil)) (pe_and (pe_cmpR (op_eqD (hu64 hr)) (pe_ix ix_or2 (pe_ix ix_tup (pv 9) pe_int (fun _ _ => rfl)) pe_int (fun _ _ => rfl)) (pe_ix ix_tup (pv 10) pe_int (fun _ _ => rfl)) (by first | rfl | exact nomark _)) (pe_and (pe_ix ix_or2 (pe_ix ix_tup (pv 9) pe_int (fun _ _ => rfl)) pe_int (fun _ _ => rfl)) (pe_one (pe_not (pe_ix ix_or2 (pe_ix ix_tup (pv 9) pe_int (fun _ _ => rfl)) pe_int (fun _ _ => rfl))))))))) pss_nil)
      (pss_cons (ps_if (PW.pt (pw_or (pt_not (pt_val (pe_callB call_isi (by rfl) T.m_isinstance (by decide +kernel) (pa_cons (pe_ix ix_tup (pv 9) pe_int (fun _ _ => rfl)) (pa_cons (pe_bltn (v := .ty "tuple") (u := .type "tuple") (by rfl) T.m_tuple (by decide +kernel) rfl) pa_nil))))) (pw_or1 (pt_cmpR op_ne (pe_callB call_len_seq (by rfl) T.m_len PySem.boot_len (pa_cons (pe_ix ix_tup (pv 9) pe_int (fun _ _ => rfl)) pa_nil)) (pe_callB call_len_seq (by rfl) T.m_len PySem.boot_len (pa_cons (pv 6) pa_nil)) (by first | rfl | exact nomark _))))) (pss_one (ps_ret pe_bl)) pss_nil)
      (pss_cons (ps_for PassesOwn.never rfl (pi_range1 (by rfl) T.m_range (pa_cons (pe_callB call_len_seq (by rfl) T.m_len PySem.boot_len (pa_cons (pv 6) pa_nil)) pa_nil)) (pg_name (i := 5) sc_law.nd rfl (by first | exact Or.inl rfl | exact Or.inr rfl)) (pss_one (ps_if (PW.pt (pw_or (pt_not (pt_val (pe_c c__law_is_int hr (by decide) (by rfl) (pa_cons (pe_ix ix_tup (pe_ix ix_tup (pv 9) pe_int (fun _ _ => rfl)) (pv 5) (fun _ _ => rfl)) pa_nil)))) (pw_or1 (pt_cmpR op_ne (pe_ix ix_tup (pe_ix ix_tup (pv 9) pe_int (fun _ _ => rfl)) (pv 5) (fun _ _ => rfl)) (pe_ix ix_list (pe_ix ix_tup (pv 10) pe_int (fun _ _ => rfl)) (pv 5) (fun _ _ => rfl)) (by first | rfl | exact nomark _))))) (pss_one (ps_ret pe_bl)) pss_nil)))
      (pss_one (ps_ret pe_bl))))))))))))))))), ?_⟩
    refine ⟨_, rfl, a, ns0, rfl, hS, hlen, fun ts hN hT p H1 s1 _ k1 => ?_⟩
    walk_at "go"
    refine ⟨p, ts, rfl, SqL.of k1, fun d I H2 s2 hd hg => ?_⟩
    walk_at "go"
    refine ⟨d, I, rfl, hd, hg, fun st H3 s3 hst => ?_⟩
    have hok : ItsOk I := ⟨fun s hs => shs_ok s (hg.2.2.2.2.2.1 s hs), fun s hs => shs_ok s (hg.2.2.2.2.2.2.1 s hs), fun p hp => ok_kind (hg.2.2.2.2.2.2.2.2 p hp)⟩
    have k3 := s3 _ _ (s2 _ _ k1)
    have hd3 := hd.mono s3
    clear hS hlen hN hT s1 k1 hd s2 s3
    walk_at "go"
    intro n0 hn0
    generalize e4 : upd H3 n0 _ = H4
    obtain ⟨s4, k4⟩ := newO hn0 e4
    clear e4
    walk_at "go"
    refine ⟨p, ts, 17, 11, rfl, SqL.of (s4 _ _ k3), ⟨by decide, by decide⟩, by decide, fun v v0 v1 => ?_⟩
    obtain ⟨n, rfl⟩ := Int.eq_ofNat_of_zero_le v0
    walk_at "go"
    refine for_rangeD (lo := 0) (n := n) (fun i σ G => Same H3 G ∧ (∃ (nl : Addr) (xs : List V) (ns : List Nm), G nl = some (.lst xs) ∧ DtA K G xs (ns.map Nm.d) ∧ (∀ x ∈ ns, x.ok I) ∧ ns.length ≤ i ∧ ∃ o5 o11 o12 o13 o14 o15, σ = [some (.ref a), some (.ref p), some (.ref d), some (.ref st), some (.ref nl), o5, none, none, none, none, none, o11, o12, o13, o14, o15]))
      ⟨s4, n0, [], [], k4, .nil, (fun _ z => nomatch z), Nat.le_refl _, _, _, _, _, _, _, rfl⟩ ?_ ?_
    · rintro i _ G hi ⟨sG, nl, xs, ns, kn, dn, okn, ln, o5, o11, o12, o13, o14, o15, rfl⟩
      have lx := dn.len
      rw [List.length_map] at lx
      rw [Int.zero_add]
      walk_at "go"
      refine ⟨p, ts, 18 + 4 * (i : Int), rfl, SqL.of (sG _ _ k3), ⟨by omega, by omega⟩, fun pv m nm G2 s2 dp om on => ?_⟩
      obtain ⟨p0, y1, y2, rfl, hp0, j1, j2⟩ := Dt.two dp
      cases j1.vstr
      cases j2.vstr
      walk_at "go"
      intro e1 h1
      generalize x1 : upd G2 e1 _ = G3
      obtain ⟨s3, k3'⟩ : Same G2 G3 ∧ G3 e1 = some (.lst (kdK.map V.str)) := by subst x1; exact ⟨Same.new h1, upd_same⟩
      clear x1
      have S3 := sG.trans (s2.trans s3)
      walk_at "go"
      refine ⟨p, ts, 18 + 4 * (i : Int) + 2, 5, rfl, SqL.of (S3 _ _ k3), ⟨by omega, by omega⟩, by decide, fun u u0 u1 => ?_⟩
      obtain ⟨kd, ek, hk⟩ := at_kdL u0 u1
      refine ⟨e1, _, _, _, rfl, rfl, SqL.of k3', ek, ?_⟩
      walk_at "go"
      obtain ⟨l2, zs, hget, hl2, hzs⟩ := (hd3.mono S3).get hk
      have hc := im_count hg hk
      have lz := hzs.len
      rw [List.length_map] at lz
      refine ⟨d, _, rfl, hget, ?_⟩
      refine ⟨l2, _, rfl, .inl (SqL.of hl2), ?_⟩
      rw [lz]
      walk_at "go"
      refine ⟨p, ts, 18 + 4 * (i : Int) + 3, ((I.all kd).length : Int), rfl, SqL.of (S3 _ _ k3), ⟨by omega, by omega⟩, by omega, fun ix ix0 ix1 => ?_⟩
      obtain ⟨ix, rfl⟩ := Int.eq_ofNat_of_zero_le ix0
      have kn3 := s3 _ _ (s2 _ _ kn)
      have dn3 := (dn.same s2).same s3
      have hp3 := Same.ti (K := K) s3 _ _ hp0
      have dp3 := dp.same s3
      walk_at "go"
      refine ⟨⟨_, SqL.of kn3⟩, fun DD hDD => ?_⟩
      refine lcD_list (xs := xs) (j := 15) (fun i => ((ns.take i).filter (fun x => !hit m nm x)).map Nm.d) hDD (SqL.of kn3) (by omega) rfl (fun i' x G5 hx s5 => ?_) (fun G5 zs5 s5 k5 d5 l5 => ?_)
      · intro Y N hY hN'
        obtain ⟨dd, ed, dx⟩ := (dn3.same s5).geti hx
        obtain ⟨y, ey, rfl⟩ : ∃ y, ns[i']? = some y ∧ Nm.d y = dd := by
          rw [List.getElem?_map] at ed
          cases e : ns[i']? with
          | none => rw [e] at ed; cases ed
          | some y => rw [e] at ed; cases ed; exact ⟨y, rfl, rfl⟩
        have dx0 := dx
        obtain ⟨t2, w1, w2, w3, w4, rfl, ht4, i1, i2, i3, i4⟩ := Dt.four dx
        cases i1.vstr
        cases i2.vstr
        have hp5 := Same.ti (K := K) s5 _ _ hp3
        walk_at "go"
        by_cases c1 : y.m = m
        · refine ifNeS c1 ?_
          walk_at "go"
          by_cases c2 : y.n = nm
          · refine ifNeS c2 ?_
            exact hN' _ (Same.refl _) (filt_take_no _ _ ey (by unfold hit; rw [decide_eq_true c1, decide_eq_true c2]; rfl))
          · refine ifNeSN c2 ?_
            walk_at "go"
            exact hY _ _ _ (Same.refl _) dx0 (filt_take_yes _ _ ey (by unfold hit; rw [decide_eq_true c1, decide_eq_false c2]; rfl))
        · refine ifNeSN c1 ?_
          walk_at "go"
          exact hY _ _ _ (Same.refl _) dx0 (filt_take_yes _ _ ey (by unfold hit; rw [decide_eq_false c1]; rfl))
      have d5 : DtA K G5 zs5 ((ns.filter (fun x => !hit m nm x)).map Nm.d) := by
        have z := d5
        simp only [lx, List.take_length] at z
        exact z
      walk_at "go"
      intro t1 ht1
      generalize x6 : upd G5 t1 _ = G6
      obtain ⟨s6, d6⟩ := newT (K := K) ht1 x6 (.cons (.str kd) (.cons (.int (ix : Int)) .nil))
      clear x6
      refine cat_D ((dp3.same s5).same s6) d6 (fun z => nomatch z) (by show 2 + 2 ≤ 1000000; decide) fun t2 G7 s7 d7 => ?_
      walk_at "go"
      intro t3 ht3
      generalize x8 : upd G7 t3 _ = G8
      obtain ⟨s8, k8⟩ := newO ht3 x8
      clear x8
      have s58 := s6.trans (s7.trans s8)
      refine ⟨DD, t3, _, _, rfl, rfl, s58 _ _ k5, k8, small64 (by show zs5.length + 1 ≤ 1000000; omega), fun t4 ht4 => ?_⟩
      generalize x9 : upd G8 t4 _ = G9
      obtain ⟨s9, k9⟩ := newO ht4 x9
      clear x9
      walk_at "go"
      have s59 := s58.trans s9
      refine ⟨S3.trans (s5.trans s59), t4, _, ns.filter (fun x => !hit m nm x) ++ [⟨m, nm, kd, ix⟩], k9, ?_, fun x hx => ?_, ?_, _, _, _, _, _, _, rfl⟩
      · rw [List.map_append]
        exact (d5.same s59).snoc (d7.same (s8.trans s9))
      · rcases List.mem_append.mp hx with z | z
        · exact okn x (List.mem_filter.mp z).1
        · rw [List.mem_singleton] at z
          subst z
          exact ⟨om, on, hk, by show ix < (I.all kd).length; omega⟩
      · rw [List.length_append]
        have := List.length_filter_le (fun x => !hit m nm x) ns
        show _ + 1 ≤ i + 1
        omega
    rintro _ G ⟨sG, nl, xs, ns, kn, dn, okn, ln, o5, o11, o12, o13, o14, o15, rfl⟩
    have lx := dn.len
    rw [List.length_map] at lx
    have k3 := sG _ _ k3
    have hd3 := hd3.mono sG
    have hst := hst.mono sG
    clear s4 k4 hn0 sG
    walk_at "go"
    refine ⟨p, nl, d, ts, xs, ns, I, rfl, SqL.of k3, SqL.of kn, dn, okn, by omega, hd3, hg, fun R ys rs G2 s2 kR dR okR lR => ?_⟩
    walk_at "go"
    intro sgv G3 s3 dsg
    obtain ⟨sg, _, rfl, _, _⟩ := dsg.vtup
    walk_at "go"
    refine ⟨R, _, rfl, .inl ⟨SqL.of (s3 _ _ kR), fun im him => ?_⟩⟩
    generalize e4 : upd G3 im _ = G4
    obtain ⟨s4, k4⟩ := newO him e4
    clear e4
    refine ⟨rfl, rfl, fun mo dmo nmo ndmo nxmo => ?_⟩
    refine ⟨mo, dmo, .ref sg, .ref im, rfl, upd_same, fun G5 kmo b5 => ⟨rfl, ?_⟩⟩
    have s5 := made_same nmo ndmo b5
    have S5 := s2.trans (s3.trans (s4.trans s5))
    walk_at "go"
    refine ⟨nl, _, rfl, .inl (SqL.of (S5 _ _ kn)), fun pa hpa => ?_⟩
    generalize e6 : upd G5 pa _ = G6
    obtain ⟨s6, k6⟩ := newO hpa e6
    clear e6
    have S6 := S5.trans s6
    walk_at "go"
    have dsg6 := ((dsg.same s4).same s5).same s6
    obtain ⟨dm, m2, m3, m4, m5, m6, m7, m8, m9, m10, hmo⟩ := kmo
    refine ⟨st, pa, mo, sg, im, I, xs, ys, ns, shs, rs, rfl, hst.mono S6, hok, SqL.of k6, dn.same S6, okn, by omega, ⟨dm, m2, m3, m4, m5, m6, m7, m8, m9, m10, s6 _ _ hmo⟩, dsg6, shs_ok, SqT.of ((s5.trans s6) _ _ k4), dR.same (s3.trans (s4.trans (s5.trans s6))), okR, by omega, fun av G7 s7 hav => ?_⟩
    have S7 := S6.trans s7
    walk_at "go"
    have lay : SeqAt.shaped (.list (ns.map Nm.d)) = true := shaped_list fun x hx => nm_lay (okn x hx)
    refine ⟨.list (ns.map Nm.d), .list (ns.map Nm.d), .lst (SqL.of (s7 _ _ k6)) (dn.same S7).dp, .lst (SqL.of (S7 _ _ kn)) (dn.same S7).dp, lay, lay, ?_⟩
    rw [show PyData.eqv (.list (ns.map Nm.d)) (.list (ns.map Nm.d)) = true by rw [PyData.eqv]; exact eqv_nms ns]
    walk_at "go"
    obtain ⟨lf, lt, lm, lv, lg, li, Fs, Ts, Ms, Vs, Gs, ⟨dxs, hsto⟩, kf, hF, kg, hG, kt, lenT, hT, km, lenM, hM, kv, lenV, hV, ki⟩ := hst.mono S7
    have lF := hF.1.trans hg.1
    have lV := lenV.trans hg.2.2.2.2.1
    refine ⟨st, _, dxs, _, _, rfl, hsto, T.cl_Store, T.n_Store_functions, lk_Store_functions, ?_⟩
    refine ⟨lf, _, rfl, .inl (SqL.of kf), ?_⟩
    rw [lF]
    walk_at "go"
    refine ⟨st, _, dxs, _, _, rfl, hsto, T.cl_Store, T.n_Store_instances, lk_Store_instances, ?_⟩
    refine ⟨li, _, rfl, .inl (SqL.of ki), ?_⟩
    walk_at "go"
    refine ⟨st, _, dxs, _, _, rfl, hsto, T.cl_Store, T.n_Store_variables, lk_Store_variables, ?_⟩
    refine ⟨lv, _, rfl, .inl (SqL.of kv), ?_⟩
    rw [lV]
    walk_at "go"
    have S27 := s3.trans (s4.trans (s5.trans (s6.trans s7)))
    refine ⟨R, nl, d, xs, ys, ns, rs, I, rfl, SqL.of (S27 _ _ kR), dR.same S27, okR, lR, SqL.of (S7 _ _ kn), dn.same S7, okn, by omega, hd3.mono S7, hg, fun dv H8 s8 hdue => ?_⟩
    have kR8 := s8 _ _ (S27 _ _ kR)
    have ly := dR.len
    rw [List.length_map] at ly
    clear hsto kf hF kg hG kt lenT hT km lenM hM kv lenV hV ki lF lV S27
    walk_at "go"
    cases eo : oc I shs ns rs with
    | miss k =>
      rw [eo] at hav hdue
      obtain ⟨t, l, rfl, ht, kl⟩ := hav
      obtain ⟨u, rfl, hu⟩ := hdue
      have ht8 := Same.ti (K := K) s8 _ _ ht
      have kl8 := s8 _ _ kl
      walk_at "go"
      refine .inl ⟨l, _, _, _, rfl, rfl, SqL.of kl8, rfl, ?_⟩
      walk_at "go"
      refine .inl ⟨l, _, _, _, rfl, rfl, SqL.of kl8, rfl, ?_⟩
      walk_at "go"
      refine ⟨.int (k : Int), .int (k : Int), .int _, .int _, lay_int _, lay_int _, ?_⟩
      rw [eqv_int]
      walk_at "go"
      refine .inl ⟨l, _, _, _, rfl, rfl, SqL.of kl8, rfl, ?_⟩
      walk_at "go"
      refine .inl ⟨l, _, _, _, rfl, rfl, SqL.of kl8, rfl, ?_⟩
      walk_at "go"
      exact q _
    | unfit k =>
      rw [eo] at hav hdue
      obtain ⟨t, l, rfl, ht, kl⟩ := hav
      obtain ⟨u, rfl, hu⟩ := hdue
      have ht8 := Same.ti (K := K) s8 _ _ ht
      have kl8 := s8 _ _ kl
      walk_at "go"
      refine .inl ⟨l, _, _, _, rfl, rfl, SqL.of kl8, rfl, ?_⟩
      walk_at "go"
      refine .inl ⟨l, _, _, _, rfl, rfl, SqL.of kl8, rfl, ?_⟩
      walk_at "go"
      refine ⟨.int (k : Int), .int (k : Int), .int _, .int _, lay_int _, lay_int _, ?_⟩
      rw [eqv_int]
      walk_at "go"
      refine .inl ⟨l, _, _, _, rfl, rfl, SqL.of kl8, rfl, ?_⟩
      walk_at "go"
      refine .inl ⟨l, _, _, _, rfl, rfl, SqL.of kl8, rfl, ?_⟩
      walk_at "go"
      exact q _
    | found is =>
      rw [eo] at hav hdue
      have lis := oc_found eo
      obtain ⟨t, u, rfl, ht, ku⟩ := hav
      obtain ⟨t2, l, rfl, hu, kl⟩ := hdue
      have ht8 := Same.ti (K := K) s8 _ _ ht
      have ku8 := s8 _ _ ku
      walk_at "go"
      refine ⟨u, _, rfl, .inr (SqT.of ku8), ?_⟩
      walk_at "go"
      refine ⟨R, _, rfl, .inl (SqL.of kR8), ?_⟩
      have elen : ((is.map V.int).length : Int) = (ys.length : Int) := by rw [List.length_map]; omega
      walk_at "go"
      refine ifNe elen ?_
      walk_at "go"
      refine ⟨R, _, rfl, .inl (SqL.of kR8), ?_⟩
      walk_at "go"
      have hu8 : SqT K H8 u (is.map V.int) := SqT.of ku8
      have hl8 : SqL K H8 l (is.map V.int) := SqL.of kl
      refine for_rangeD (lo := 0) (n := ys.length) (fun i σ G => H8 = G ∧ ∃ o5, σ = [some (.ref a), some (.ref p), some (.ref d), some (.ref st), some (.ref nl), o5, some (.ref R), some (.ref mo), some (.ref pa), some (.ref t), some (.ref t2), o11, o12, o13, o14, o15]) ⟨rfl, _, rfl⟩ ?_ ?_
      · rintro i _ G hi ⟨rfl, o5, rfl⟩
        rw [Int.zero_add]
        have hi' : i < is.length := by omega
        have ei := at_ints (ns := is) hi'
        walk_at "go"
        exact ⟨_, rfl⟩
      · rintro _ G ⟨rfl, o5, rfl⟩
        walk_at "go"
        exact q _
end
theorem all_mk {l : PySem.W.OpenLaw} {w : World} {K : PySem.W.Frag} {h : Heap} {mg : Str → Option Value} {fa f0 f1 f2 f3 f4 f5 f6 f7 f8 f9 f10 f11 f12 f13 f14 f15 f16 f17 f18 f19 f20 f21 f22 f23 f24 f25 : Addr} (X : K.In h) (G : h.Ns mainGlobals mg) (hfa : mg "law" = some (.ref fa))
    {od0 an0 od1 an1 od2 an2 od3 an3 od4 an4 od5 an5 od6 an6 od7 an7 od8 an8 od9 an9 od10 an10 od11 an11 od12 an12 od13 an13 od14 an14 od15 an15 od16 an16 od17 an17 od18 an18 od19 an19 od20 an20 od21 an21 od22 an22 od23 an23 od24 an24 od25 an25 : Option Addr} {sl0 sl1 sl2 sl3 sl4 sl5 sl6 sl7 sl8 sl9 sl10 sl11 sl12 sl13 sl14 sl15 sl16 sl17 sl18 sl19 sl20 sl21 sl22 sl23 sl24 sl25 : Array (Option Value)} {oc0 kV0 dc0 pm0 cd0 ct0 oc1 kV1 dc1 pm1 cd1 ct1 oc2 kV2 dc2 pm2 cd2 ct2 oc3 kV3 dc3 pm3 cd3 ct3 oc4 kV4 dc4 pm4 cd4 ct4 oc5 kV5 dc5 pm5 cd5 ct5 oc6 kV6 dc6 pm6 cd6 ct6 oc7 kV7 dc7 pm7 cd7 ct7 oc8 kV8 dc8 pm8 cd8 ct8 oc9 kV9 dc9 pm9 cd9 ct9 oc10 kV10 dc10 pm10 cd10 ct10 oc11 kV11 dc11 pm11 cd11 ct11 oc12 kV12 dc12 pm12 cd12 ct12 oc13 kV13 dc13 pm13 cd13 ct13 oc14 kV14 dc14 pm14 cd14 ct14 oc15 kV15 dc15 pm15 cd15 ct15 oc16 kV16 dc16 pm16 cd16 ct16 oc17 kV17 dc17 pm17 cd17 ct17 oc18 kV18 dc18 pm18 cd18 ct18 oc19 kV19 dc19 pm19 cd19 ct19 oc20 kV20 dc20 pm20 cd20 ct20 oc21 kV21 dc21 pm21 cd21 ct21 oc22 kV22 dc22 pm22 cd22 ct22 oc23 kV23 dc23 pm23 cd23 ct23 oc24 kV24 dc24 pm24 cd24 ct24 oc25 dc25 pm25 cd25 ct25 : Value}
    (a0 : PySem.W.nsIn K mainGlobals "items_of" = some (some (.ref f0))) (l0 : K.lookup f0 = some ⟨oc0, od0, .func (PySem.W.fnOf "items_of" "items_of" (defArgs s_items_of) (defBody s_items_of) (defScope s_items_of) .none kV0 dc0 pm0 an0 cd0 ct0), sl0⟩) (c0 : PySem.W.codeIn K cd0 "items_of" = true) (k0 : PySem.W.keepIn K (.ref f0) = true)
    (a1 : PySem.W.nsIn K mainGlobals "host_functions" = some (some (.ref f1))) (l1 : K.lookup f1 = some ⟨oc1, od1, .func (PySem.W.fnOf "host_functions" "host_functions" (defArgs s_host_functions) (defBody s_host_functions) (defScope s_host_functions) .none kV1 dc1 pm1 an1 cd1 ct1), sl1⟩) (c1 : PySem.W.codeIn K cd1 "host_functions" = true) (k1 : PySem.W.keepIn K (.ref f1) = true)
    (a2 : PySem.W.nsIn K mainGlobals "lookup" = some (some (.ref f2))) (l2 : K.lookup f2 = some ⟨oc2, od2, .func (PySem.W.fnOf "lookup" "lookup" (defArgs s_lookup) (defBody s_lookup) (defScope s_lookup) .none kV2 dc2 pm2 an2 cd2 ct2), sl2⟩) (c2 : PySem.W.codeIn K cd2 "lookup" = true) (k2 : PySem.W.keepIn K (.ref f2) = true)
    (a3 : PySem.W.nsIn K mainGlobals "check_signature" = some (some (.ref f3))) (l3 : K.lookup f3 = some ⟨oc3, od3, .func (PySem.W.fnOf "check_signature" "check_signature" (defArgs s_check_signature) (defBody s_check_signature) (defScope s_check_signature) .none kV3 dc3 pm3 an3 cd3 ct3), sl3⟩) (c3 : PySem.W.codeIn K cd3 "check_signature" = true) (k3 : PySem.W.keepIn K (.ref f3) = true)
    (a4 : PySem.W.nsIn K mainGlobals "add_host" = some (some (.ref f4))) (l4 : K.lookup f4 = some ⟨oc4, od4, .func (PySem.W.fnOf "add_host" "add_host" (defArgs s_add_host) (defBody s_add_host) (defScope s_add_host) .none kV4 dc4 pm4 an4 cd4 ct4), sl4⟩) (c4 : PySem.W.codeIn K cd4 "add_host" = true) (k4 : PySem.W.keepIn K (.ref f4) = true)
    (a5 : PySem.W.nsIn K mainGlobals "size_fits" = some (some (.ref f5))) (l5 : K.lookup f5 = some ⟨oc5, od5, .func (PySem.W.fnOf "size_fits" "size_fits" (defArgs s_size_fits) (defBody s_size_fits) (defScope s_size_fits) .none kV5 dc5 pm5 an5 cd5 ct5), sl5⟩) (c5 : PySem.W.codeIn K cd5 "size_fits" = true) (k5 : PySem.W.keepIn K (.ref f5) = true)
    (a6 : PySem.W.nsIn K mainGlobals "item_fits" = some (some (.ref f6))) (l6 : K.lookup f6 = some ⟨oc6, od6, .func (PySem.W.fnOf "item_fits" "item_fits" (defArgs s_item_fits) (defBody s_item_fits) (defScope s_item_fits) .none kV6 dc6 pm6 an6 cd6 ct6), sl6⟩) (c6 : PySem.W.codeIn K cd6 "item_fits" = true) (k6 : PySem.W.keepIn K (.ref f6) = true)
    (a7 : PySem.W.nsIn K mainGlobals "resolve" = some (some (.ref f7))) (l7 : K.lookup f7 = some ⟨oc7, od7, .func (PySem.W.fnOf "resolve" "resolve" (defArgs s_resolve) (defBody s_resolve) (defScope s_resolve) .none kV7 dc7 pm7 an7 cd7 ct7), sl7⟩) (c7 : PySem.W.codeIn K cd7 "resolve" = true) (k7 : PySem.W.keepIn K (.ref f7) = true)
    (a8 : PySem.W.nsIn K mainGlobals "_law_tape" = some (some (.ref f8))) (l8 : K.lookup f8 = some ⟨oc8, od8, .func (PySem.W.fnOf "_law_tape" "_law_tape" (defArgs s__law_tape) (defBody s__law_tape) (defScope s__law_tape) .none kV8 dc8 pm8 an8 cd8 ct8), sl8⟩) (c8 : PySem.W.codeIn K cd8 "_law_tape" = true) (k8 : PySem.W.keepIn K (.ref f8) = true)
    (a9 : PySem.W.nsIn K mainGlobals "_law_draw" = some (some (.ref f9))) (l9 : K.lookup f9 = some ⟨oc9, od9, .func (PySem.W.fnOf "_law_draw" "_law_draw" (defArgs s__law_draw) (defBody s__law_draw) (defScope s__law_draw) .none kV9 dc9 pm9 an9 cd9 ct9), sl9⟩) (c9 : PySem.W.codeIn K cd9 "_law_draw" = true) (k9 : PySem.W.keepIn K (.ref f9) = true)
    (a10 : PySem.W.nsIn K mainGlobals "_law_is_int" = some (some (.ref f10))) (l10 : K.lookup f10 = some ⟨oc10, od10, .func (PySem.W.fnOf "_law_is_int" "_law_is_int" (defArgs s__law_is_int) (defBody s__law_is_int) (defScope s__law_is_int) .none kV10 dc10 pm10 an10 cd10 ct10), sl10⟩) (c10 : PySem.W.codeIn K cd10 "_law_is_int" = true) (k10 : PySem.W.keepIn K (.ref f10) = true)
    (a11 : PySem.W.nsIn K mainGlobals "_law_shapes" = some (some (.ref f11))) (l11 : K.lookup f11 = some ⟨oc11, od11, .func (PySem.W.fnOf "_law_shapes" "_law_shapes" (defArgs s__law_shapes) (defBody s__law_shapes) (defScope s__law_shapes) .none kV11 dc11 pm11 an11 cd11 ct11), sl11⟩) (c11 : PySem.W.codeIn K cd11 "_law_shapes" = true) (k11 : PySem.W.keepIn K (.ref f11) = true)
    (a12 : PySem.W.nsIn K mainGlobals "_law_items" = some (some (.ref f12))) (l12 : K.lookup f12 = some ⟨oc12, od12, .func (PySem.W.fnOf "_law_items" "_law_items" (defArgs s__law_items) (defBody s__law_items) (defScope s__law_items) .none kV12 dc12 pm12 an12 cd12 ct12), sl12⟩) (c12 : PySem.W.codeIn K cd12 "_law_items" = true) (k12 : PySem.W.keepIn K (.ref f12) = true)
    (a13 : PySem.W.nsIn K mainGlobals "_law_store" = some (some (.ref f13))) (l13 : K.lookup f13 = some ⟨oc13, od13, .func (PySem.W.fnOf "_law_store" "_law_store" (defArgs s__law_store) (defBody s__law_store) (defScope s__law_store) .none kV13 dc13 pm13 an13 cd13 ct13), sl13⟩) (c13 : PySem.W.codeIn K cd13 "_law_store" = true) (k13 : PySem.W.keepIn K (.ref f13) = true)
    (a14 : PySem.W.nsIn K mainGlobals "_law_pair" = some (some (.ref f14))) (l14 : K.lookup f14 = some ⟨oc14, od14, .func (PySem.W.fnOf "_law_pair" "_law_pair" (defArgs s__law_pair) (defBody s__law_pair) (defScope s__law_pair) .none kV14 dc14 pm14 an14 cd14 ct14), sl14⟩) (c14 : PySem.W.codeIn K cd14 "_law_pair" = true) (k14 : PySem.W.keepIn K (.ref f14) = true)
    (a15 : PySem.W.nsIn K mainGlobals "_law_what" = some (some (.ref f15))) (l15 : K.lookup f15 = some ⟨oc15, od15, .func (PySem.W.fnOf "_law_what" "_law_what" (defArgs s__law_what) (defBody s__law_what) (defScope s__law_what) .none kV15 dc15 pm15 an15 cd15 ct15), sl15⟩) (c15 : PySem.W.codeIn K cd15 "_law_what" = true) (k15 : PySem.W.keepIn K (.ref f15) = true)
    (a16 : PySem.W.nsIn K mainGlobals "_law_fits" = some (some (.ref f16))) (l16 : K.lookup f16 = some ⟨oc16, od16, .func (PySem.W.fnOf "_law_fits" "_law_fits" (defArgs s__law_fits) (defBody s__law_fits) (defScope s__law_fits) .none kV16 dc16 pm16 an16 cd16 ct16), sl16⟩) (c16 : PySem.W.codeIn K cd16 "_law_fits" = true) (k16 : PySem.W.keepIn K (.ref f16) = true)
    (a17 : PySem.W.nsIn K mainGlobals "_law_imports" = some (some (.ref f17))) (l17 : K.lookup f17 = some ⟨oc17, od17, .func (PySem.W.fnOf "_law_imports" "_law_imports" (defArgs s__law_imports) (defBody s__law_imports) (defScope s__law_imports) .none kV17 dc17 pm17 an17 cd17 ct17), sl17⟩) (c17 : PySem.W.codeIn K cd17 "_law_imports" = true) (k17 : PySem.W.keepIn K (.ref f17) = true)
    (a18 : PySem.W.nsIn K mainGlobals "_law_due" = some (some (.ref f18))) (l18 : K.lookup f18 = some ⟨oc18, od18, .func (PySem.W.fnOf "_law_due" "_law_due" (defArgs s__law_due) (defBody s__law_due) (defScope s__law_due) .none kV18 dc18 pm18 an18 cd18 ct18), sl18⟩) (c18 : PySem.W.codeIn K cd18 "_law_due" = true) (k18 : PySem.W.keepIn K (.ref f18) = true)
    (a19 : PySem.W.nsIn K mainGlobals "_law_answer" = some (some (.ref f19))) (l19 : K.lookup f19 = some ⟨oc19, od19, .func (PySem.W.fnOf "_law_answer" "_law_answer" (defArgs s__law_answer) (defBody s__law_answer) (defScope s__law_answer) .none kV19 dc19 pm19 an19 cd19 ct19), sl19⟩) (c19 : PySem.W.codeIn K cd19 "_law_answer" = true) (k19 : PySem.W.keepIn K (.ref f19) = true)
    (a20 : PySem.W.nsIn K mainGlobals "law" = some (some (.ref f20))) (l20 : K.lookup f20 = some ⟨oc20, od20, .func (PySem.W.fnOf "law" "law" (defArgs s_law) (defBody s_law) (defScope s_law) .none kV20 dc20 pm20 an20 cd20 ct20), sl20⟩) (c20 : PySem.W.codeIn K cd20 "law" = true) (k20 : PySem.W.keepIn K (.ref f20) = true)
    (z_bool : PySem.W.nsIn K mainGlobals "bool" = some none)
    (z_enumerate : PySem.W.nsIn K mainGlobals "enumerate" = some none)
    (z_int : PySem.W.nsIn K mainGlobals "int" = some none)
    (z_isinstance : PySem.W.nsIn K mainGlobals "isinstance" = some none)
    (z_len : PySem.W.nsIn K mainGlobals "len" = some none)
    (z_list : PySem.W.nsIn K mainGlobals "list" = some none)
    (z_max : PySem.W.nsIn K mainGlobals "max" = some none)
    (z_range : PySem.W.nsIn K mainGlobals "range" = some none)
    (z_tuple : PySem.W.nsIn K mainGlobals "tuple" = some none)
    {cC_HostError cC_ImportMissing cI_ImportMissing cC_ImportUnfit cI_ImportUnfit cC_LimitReached cI_LimitReached : Addr}
    (sp0 : PySem.W.specialIn K (.builtin "object.__class__") "__get__" = some (some (.builtin "getset_descriptor.__get__"))) (tk0 : PySem.W.takesIn K (.builtin "object.__class__") = some true)
    (aC_HostError : PySem.W.nsIn K mainGlobals "HostError" = some (some (.ref cC_HostError)))
    (aC_ImportMissing : PySem.W.nsIn K mainGlobals "ImportMissing" = some (some (.ref cC_ImportMissing)))
    (aC_ImportUnfit : PySem.W.nsIn K mainGlobals "ImportUnfit" = some (some (.ref cC_ImportUnfit)))
    (aC_LimitReached : PySem.W.nsIn K mainGlobals "LimitReached" = some (some (.ref cC_LimitReached)))
    (ex_HostError : PySem.W.subIn K (.ref cC_HostError) (.type "BaseException") = some true)
    (ty_HostError : PySem.W.typeIn K (.ref cC_HostError) = some (.type "type"))
    (hd_HostError : PySem.W.hasDictIn K cC_HostError = true)
    (ex_ImportMissing : PySem.W.subIn K (.ref cC_ImportMissing) (.type "BaseException") = some true)
    (ty_ImportMissing : PySem.W.typeIn K (.ref cC_ImportMissing) = some (.type "type"))
    (hd_ImportMissing : PySem.W.hasDictIn K cC_ImportMissing = true)
    (ex_ImportUnfit : PySem.W.subIn K (.ref cC_ImportUnfit) (.type "BaseException") = some true)
    (ty_ImportUnfit : PySem.W.typeIn K (.ref cC_ImportUnfit) = some (.type "type"))
    (hd_ImportUnfit : PySem.W.hasDictIn K cC_ImportUnfit = true)
    (ex_LimitReached : PySem.W.subIn K (.ref cC_LimitReached) (.type "BaseException") = some true)
    (ty_LimitReached : PySem.W.typeIn K (.ref cC_LimitReached) = some (.type "type"))
    (hd_LimitReached : PySem.W.hasDictIn K cC_LimitReached = true)
    {nm_ImportMissing qn_ImportMissing : Str} {N_ImportMissing : Addr} {bs_ImportMissing : List Value} {sn_ImportMissing : List Str} {sub_ImportMissing : List Value} {ab_ImportMissing : Bool} {col_ImportMissing : Option Bool} {dd_ImportMissing : Option Addr} {m0_ImportMissing m1_ImportMissing m2_ImportMissing m3_ImportMissing m5_ImportMissing : Option Value}
    (xl_ImportMissing : K.lookup cC_ImportMissing = some (excClassObj nm_ImportMissing qn_ImportMissing cC_ImportMissing N_ImportMissing bs_ImportMissing [.ref cC_HostError, .type "ValueError", .type "Exception", .type "BaseException", .type "object"] true sn_ImportMissing sub_ImportMissing ab_ImportMissing col_ImportMissing dd_ImportMissing m0_ImportMissing m1_ImportMissing m2_ImportMissing m3_ImportMissing m5_ImportMissing "ValueError.__new__"))
    (sa_ImportMissing : PySem.W.findIn K (.ref cC_ImportMissing) "__setattr__" = some (some (.builtin "object.__setattr__")))
    (ga_ImportMissing : PySem.W.findIn K (.ref cC_ImportMissing) "__getattribute__" = some (some (.builtin "BaseException.__getattribute__")))
    (gg_ImportMissing : PySem.W.findIn K (.ref cC_ImportMissing) "__getattr__" = some none)
    (ca_ImportMissing : PySem.W.findIn K (.ref cC_ImportMissing) "__class__" = some (some (.builtin "object.__class__")))
    (kp_ImportMissing : PySem.W.keepIn K (.ref cC_ImportMissing) = true)
    (mr_ImportMissing : PySem.W.mroIn K cC_ImportMissing (.type "object") = some true)
    {odI_ImportMissing anI_ImportMissing : Option Addr} {slI_ImportMissing : Array (Option Value)} {ocI_ImportMissing kVI_ImportMissing dcI_ImportMissing pmI_ImportMissing cdI_ImportMissing ctI_ImportMissing : Value}
    (aI_ImportMissing : PySem.W.findIn K (.ref cC_ImportMissing) "__init__" = some (some (.ref cI_ImportMissing))) (tI_ImportMissing : PySem.W.typeIn K (.ref cI_ImportMissing) = some (.type "function"))
    (lI_ImportMissing : K.lookup cI_ImportMissing = some ⟨ocI_ImportMissing, odI_ImportMissing, .func (PySem.W.fnOf "__init__" "ImportMissing.__init__" (defArgs i_ImportMissing) (defBody i_ImportMissing) (defScope i_ImportMissing) .none kVI_ImportMissing dcI_ImportMissing pmI_ImportMissing anI_ImportMissing cdI_ImportMissing ctI_ImportMissing), slI_ImportMissing⟩) (cdo_ImportMissing : PySem.W.codeIn K cdI_ImportMissing "ImportMissing.__init__" = true) (kI_ImportMissing : PySem.W.keepIn K (.ref cI_ImportMissing) = true)
    (no_ImportMissing_index : PySem.W.findIn K (.ref cC_ImportMissing) "index" = some none)
    (sub_ImportMissing_HostError : PySem.W.subIn K (.ref cC_ImportMissing) (.ref cC_HostError) = some true) (ne_ImportMissing_HostError : (Value.ref cC_ImportMissing == Value.ref cC_HostError) = false)
    (sub_ImportMissing_ImportMissing : PySem.W.subIn K (.ref cC_ImportMissing) (.ref cC_ImportMissing) = some true)
    (sub_ImportMissing_ImportUnfit : PySem.W.subIn K (.ref cC_ImportMissing) (.ref cC_ImportUnfit) = some false) (ne_ImportMissing_ImportUnfit : (Value.ref cC_ImportMissing == Value.ref cC_ImportUnfit) = false)
    (sub_ImportMissing_LimitReached : PySem.W.subIn K (.ref cC_ImportMissing) (.ref cC_LimitReached) = some false) (ne_ImportMissing_LimitReached : (Value.ref cC_ImportMissing == Value.ref cC_LimitReached) = false)
    (sub_ImportMissing_VE : PySem.W.subIn K (.ref cC_ImportMissing) (.type "ValueError") = some true)
    {nm_ImportUnfit qn_ImportUnfit : Str} {N_ImportUnfit : Addr} {bs_ImportUnfit : List Value} {sn_ImportUnfit : List Str} {sub_ImportUnfit : List Value} {ab_ImportUnfit : Bool} {col_ImportUnfit : Option Bool} {dd_ImportUnfit : Option Addr} {m0_ImportUnfit m1_ImportUnfit m2_ImportUnfit m3_ImportUnfit m5_ImportUnfit : Option Value}
    (xl_ImportUnfit : K.lookup cC_ImportUnfit = some (excClassObj nm_ImportUnfit qn_ImportUnfit cC_ImportUnfit N_ImportUnfit bs_ImportUnfit [.ref cC_HostError, .type "ValueError", .type "Exception", .type "BaseException", .type "object"] true sn_ImportUnfit sub_ImportUnfit ab_ImportUnfit col_ImportUnfit dd_ImportUnfit m0_ImportUnfit m1_ImportUnfit m2_ImportUnfit m3_ImportUnfit m5_ImportUnfit "ValueError.__new__"))
    (sa_ImportUnfit : PySem.W.findIn K (.ref cC_ImportUnfit) "__setattr__" = some (some (.builtin "object.__setattr__")))
    (ga_ImportUnfit : PySem.W.findIn K (.ref cC_ImportUnfit) "__getattribute__" = some (some (.builtin "BaseException.__getattribute__")))
    (gg_ImportUnfit : PySem.W.findIn K (.ref cC_ImportUnfit) "__getattr__" = some none)
    (ca_ImportUnfit : PySem.W.findIn K (.ref cC_ImportUnfit) "__class__" = some (some (.builtin "object.__class__")))
    (kp_ImportUnfit : PySem.W.keepIn K (.ref cC_ImportUnfit) = true)
    (mr_ImportUnfit : PySem.W.mroIn K cC_ImportUnfit (.type "object") = some true)
    {odI_ImportUnfit anI_ImportUnfit : Option Addr} {slI_ImportUnfit : Array (Option Value)} {ocI_ImportUnfit kVI_ImportUnfit dcI_ImportUnfit pmI_ImportUnfit cdI_ImportUnfit ctI_ImportUnfit : Value}
    (aI_ImportUnfit : PySem.W.findIn K (.ref cC_ImportUnfit) "__init__" = some (some (.ref cI_ImportUnfit))) (tI_ImportUnfit : PySem.W.typeIn K (.ref cI_ImportUnfit) = some (.type "function"))
    (lI_ImportUnfit : K.lookup cI_ImportUnfit = some ⟨ocI_ImportUnfit, odI_ImportUnfit, .func (PySem.W.fnOf "__init__" "ImportUnfit.__init__" (defArgs i_ImportUnfit) (defBody i_ImportUnfit) (defScope i_ImportUnfit) .none kVI_ImportUnfit dcI_ImportUnfit pmI_ImportUnfit anI_ImportUnfit cdI_ImportUnfit ctI_ImportUnfit), slI_ImportUnfit⟩) (cdo_ImportUnfit : PySem.W.codeIn K cdI_ImportUnfit "ImportUnfit.__init__" = true) (kI_ImportUnfit : PySem.W.keepIn K (.ref cI_ImportUnfit) = true)
    (no_ImportUnfit_index : PySem.W.findIn K (.ref cC_ImportUnfit) "index" = some none)
    (sub_ImportUnfit_HostError : PySem.W.subIn K (.ref cC_ImportUnfit) (.ref cC_HostError) = some true) (ne_ImportUnfit_HostError : (Value.ref cC_ImportUnfit == Value.ref cC_HostError) = false)
    (sub_ImportUnfit_ImportMissing : PySem.W.subIn K (.ref cC_ImportUnfit) (.ref cC_ImportMissing) = some false) (ne_ImportUnfit_ImportMissing : (Value.ref cC_ImportUnfit == Value.ref cC_ImportMissing) = false)
    (sub_ImportUnfit_ImportUnfit : PySem.W.subIn K (.ref cC_ImportUnfit) (.ref cC_ImportUnfit) = some true)
    (sub_ImportUnfit_LimitReached : PySem.W.subIn K (.ref cC_ImportUnfit) (.ref cC_LimitReached) = some false) (ne_ImportUnfit_LimitReached : (Value.ref cC_ImportUnfit == Value.ref cC_LimitReached) = false)
    (sub_ImportUnfit_VE : PySem.W.subIn K (.ref cC_ImportUnfit) (.type "ValueError") = some true)
    {nm_LimitReached qn_LimitReached : Str} {N_LimitReached : Addr} {bs_LimitReached : List Value} {sn_LimitReached : List Str} {sub_LimitReached : List Value} {ab_LimitReached : Bool} {col_LimitReached : Option Bool} {dd_LimitReached : Option Addr} {m0_LimitReached m1_LimitReached m2_LimitReached m3_LimitReached m5_LimitReached : Option Value}
    (xl_LimitReached : K.lookup cC_LimitReached = some (excClassObj nm_LimitReached qn_LimitReached cC_LimitReached N_LimitReached bs_LimitReached [.ref cC_HostError, .type "ValueError", .type "Exception", .type "BaseException", .type "object"] true sn_LimitReached sub_LimitReached ab_LimitReached col_LimitReached dd_LimitReached m0_LimitReached m1_LimitReached m2_LimitReached m3_LimitReached m5_LimitReached "ValueError.__new__"))
    (sa_LimitReached : PySem.W.findIn K (.ref cC_LimitReached) "__setattr__" = some (some (.builtin "object.__setattr__")))
    (ga_LimitReached : PySem.W.findIn K (.ref cC_LimitReached) "__getattribute__" = some (some (.builtin "BaseException.__getattribute__")))
    (gg_LimitReached : PySem.W.findIn K (.ref cC_LimitReached) "__getattr__" = some none)
    (ca_LimitReached : PySem.W.findIn K (.ref cC_LimitReached) "__class__" = some (some (.builtin "object.__class__")))
    (kp_LimitReached : PySem.W.keepIn K (.ref cC_LimitReached) = true)
    (mr_LimitReached : PySem.W.mroIn K cC_LimitReached (.type "object") = some true)
    {odI_LimitReached anI_LimitReached : Option Addr} {slI_LimitReached : Array (Option Value)} {ocI_LimitReached kVI_LimitReached dcI_LimitReached pmI_LimitReached cdI_LimitReached ctI_LimitReached : Value}
    (aI_LimitReached : PySem.W.findIn K (.ref cC_LimitReached) "__init__" = some (some (.ref cI_LimitReached))) (tI_LimitReached : PySem.W.typeIn K (.ref cI_LimitReached) = some (.type "function"))
    (lI_LimitReached : K.lookup cI_LimitReached = some ⟨ocI_LimitReached, odI_LimitReached, .func (PySem.W.fnOf "__init__" "LimitReached.__init__" (defArgs i_LimitReached) (defBody i_LimitReached) (defScope i_LimitReached) .none kVI_LimitReached dcI_LimitReached pmI_LimitReached anI_LimitReached cdI_LimitReached ctI_LimitReached), slI_LimitReached⟩) (cdo_LimitReached : PySem.W.codeIn K cdI_LimitReached "LimitReached.__init__" = true) (kI_LimitReached : PySem.W.keepIn K (.ref cI_LimitReached) = true)
    (no_LimitReached_what : PySem.W.findIn K (.ref cC_LimitReached) "what" = some none)
    (sub_LimitReached_HostError : PySem.W.subIn K (.ref cC_LimitReached) (.ref cC_HostError) = some true) (ne_LimitReached_HostError : (Value.ref cC_LimitReached == Value.ref cC_HostError) = false)
    (sub_LimitReached_ImportMissing : PySem.W.subIn K (.ref cC_LimitReached) (.ref cC_ImportMissing) = some false) (ne_LimitReached_ImportMissing : (Value.ref cC_LimitReached == Value.ref cC_ImportMissing) = false)
    (sub_LimitReached_ImportUnfit : PySem.W.subIn K (.ref cC_LimitReached) (.ref cC_ImportUnfit) = some false) (ne_LimitReached_ImportUnfit : (Value.ref cC_LimitReached == Value.ref cC_ImportUnfit) = false)
    (sub_LimitReached_LimitReached : PySem.W.subIn K (.ref cC_LimitReached) (.ref cC_LimitReached) = some true)
    (sub_LimitReached_VE : PySem.W.subIn K (.ref cC_LimitReached) (.type "ValueError") = some true)
    {cC_Table : Addr}
    (aC_Table : PySem.W.nsIn K mainGlobals "Table" = some (some (.ref cC_Table)))
    {cC_Memory : Addr}
    (aC_Memory : PySem.W.nsIn K mainGlobals "Memory" = some (some (.ref cC_Memory)))
    {cC_Global : Addr}
    (aC_Global : PySem.W.nsIn K mainGlobals "Global" = some (some (.ref cC_Global)))
    {cC_Store : Addr}
    (aC_Store : PySem.W.nsIn K mainGlobals "Store" = some (some (.ref cC_Store)))
    {cC_Module : Addr}
    (aC_Module : PySem.W.nsIn K mainGlobals "Module" = some (some (.ref cC_Module)))
    {ki_MOST_KINDS : Tok} (ai_MOST_KINDS : PySem.W.nsIn K mainGlobals "MOST_KINDS" = some (some (.int 16 ki_MOST_KINDS)))
    {ki_MOST_HOSTS : Tok} (ai_MOST_HOSTS : PySem.W.nsIn K mainGlobals "MOST_HOSTS" = some (some (.int 20 ki_MOST_HOSTS)))
    (pg_Table : PySem.W.plainGet K cC_Table Str.empty = true)
    (hd_Table : PySem.W.hasDictIn K cC_Table = true)
    (po_Table : PySem.W.plainOver K cC_Table = true)
    (sa_Table : PySem.W.findIn K (.ref cC_Table) "__setattr__" = some (some (.builtin "object.__setattr__")))
    (mk_Table : PySem.W.makesIn K cC_Table = true)
    (kc_Table : PySem.W.keepIn K (.ref cC_Table) = true)
    (na_Table_entries : PySem.W.findIn K (.ref cC_Table) "entries" = some none)
    (na_Table_most : PySem.W.findIn K (.ref cC_Table) "most" = some none)
    (am21 : PySem.W.findIn K (.ref cC_Table) "__init__" = some (some (.ref f21))) (im21 : PySem.W.isFn K (.ref f21) = true)
    (l21 : K.lookup f21 = some ⟨oc21, od21, .func (PySem.W.fnOf "__init__" "Table.__init__" (defArgs s_Table___init__) (defBody s_Table___init__) (defScope s_Table___init__) .none kV21 dc21 pm21 an21 cd21 ct21), sl21⟩) (c21 : PySem.W.codeIn K cd21 "Table.__init__" = true) (k21 : PySem.W.keepIn K (.ref f21) = true)
    (pg_Memory : PySem.W.plainGet K cC_Memory Str.empty = true)
    (hd_Memory : PySem.W.hasDictIn K cC_Memory = true)
    (po_Memory : PySem.W.plainOver K cC_Memory = true)
    (sa_Memory : PySem.W.findIn K (.ref cC_Memory) "__setattr__" = some (some (.builtin "object.__setattr__")))
    (mk_Memory : PySem.W.makesIn K cC_Memory = true)
    (kc_Memory : PySem.W.keepIn K (.ref cC_Memory) = true)
    (na_Memory_pages : PySem.W.findIn K (.ref cC_Memory) "pages" = some none)
    (na_Memory_most : PySem.W.findIn K (.ref cC_Memory) "most" = some none)
    (na_Memory_cells : PySem.W.findIn K (.ref cC_Memory) "cells" = some none)
    (am22 : PySem.W.findIn K (.ref cC_Memory) "__init__" = some (some (.ref f22))) (im22 : PySem.W.isFn K (.ref f22) = true)
    (l22 : K.lookup f22 = some ⟨oc22, od22, .func (PySem.W.fnOf "__init__" "Memory.__init__" (defArgs s_Memory___init__) (defBody s_Memory___init__) (defScope s_Memory___init__) .none kV22 dc22 pm22 an22 cd22 ct22), sl22⟩) (c22 : PySem.W.codeIn K cd22 "Memory.__init__" = true) (k22 : PySem.W.keepIn K (.ref f22) = true)
    (pg_Global : PySem.W.plainGet K cC_Global Str.empty = true)
    (hd_Global : PySem.W.hasDictIn K cC_Global = true)
    (po_Global : PySem.W.plainOver K cC_Global = true)
    (sa_Global : PySem.W.findIn K (.ref cC_Global) "__setattr__" = some (some (.builtin "object.__setattr__")))
    (mk_Global : PySem.W.makesIn K cC_Global = true)
    (kc_Global : PySem.W.keepIn K (.ref cC_Global) = true)
    (na_Global_kind : PySem.W.findIn K (.ref cC_Global) "kind" = some none)
    (na_Global_mutable : PySem.W.findIn K (.ref cC_Global) "mutable" = some none)
    (na_Global_value : PySem.W.findIn K (.ref cC_Global) "value" = some none)
    (am23 : PySem.W.findIn K (.ref cC_Global) "__init__" = some (some (.ref f23))) (im23 : PySem.W.isFn K (.ref f23) = true)
    (l23 : K.lookup f23 = some ⟨oc23, od23, .func (PySem.W.fnOf "__init__" "Global.__init__" (defArgs s_Global___init__) (defBody s_Global___init__) (defScope s_Global___init__) .none kV23 dc23 pm23 an23 cd23 ct23), sl23⟩) (c23 : PySem.W.codeIn K cd23 "Global.__init__" = true) (k23 : PySem.W.keepIn K (.ref f23) = true)
    (pg_Store : PySem.W.plainGet K cC_Store Str.empty = true)
    (hd_Store : PySem.W.hasDictIn K cC_Store = true)
    (po_Store : PySem.W.plainOver K cC_Store = true)
    (sa_Store : PySem.W.findIn K (.ref cC_Store) "__setattr__" = some (some (.builtin "object.__setattr__")))
    (mk_Store : PySem.W.makesIn K cC_Store = true)
    (kc_Store : PySem.W.keepIn K (.ref cC_Store) = true)
    (na_Store_functions : PySem.W.findIn K (.ref cC_Store) "functions" = some none)
    (na_Store_tables : PySem.W.findIn K (.ref cC_Store) "tables" = some none)
    (na_Store_memories : PySem.W.findIn K (.ref cC_Store) "memories" = some none)
    (na_Store_variables : PySem.W.findIn K (.ref cC_Store) "variables" = some none)
    (na_Store_tags : PySem.W.findIn K (.ref cC_Store) "tags" = some none)
    (na_Store_instances : PySem.W.findIn K (.ref cC_Store) "instances" = some none)
    (am24 : PySem.W.findIn K (.ref cC_Store) "__init__" = some (some (.ref f24))) (im24 : PySem.W.isFn K (.ref f24) = true)
    (l24 : K.lookup f24 = some ⟨oc24, od24, .func (PySem.W.fnOf "__init__" "Store.__init__" (defArgs s_Store___init__) (defBody s_Store___init__) (defScope s_Store___init__) .none kV24 dc24 pm24 an24 cd24 ct24), sl24⟩) (c24 : PySem.W.codeIn K cd24 "Store.__init__" = true) (k24 : PySem.W.keepIn K (.ref f24) = true)
    (pg_Module : PySem.W.plainGet K cC_Module Str.empty = true)
    (hd_Module : PySem.W.hasDictIn K cC_Module = true)
    (po_Module : PySem.W.plainOver K cC_Module = true)
    (sa_Module : PySem.W.findIn K (.ref cC_Module) "__setattr__" = some (some (.builtin "object.__setattr__")))
    (mk_Module : PySem.W.makesIn K cC_Module = true)
    (kc_Module : PySem.W.keepIn K (.ref cC_Module) = true)
    (na_Module_signatures : PySem.W.findIn K (.ref cC_Module) "signatures" = some none)
    (na_Module_imports : PySem.W.findIn K (.ref cC_Module) "imports" = some none)
    (na_Module_functions : PySem.W.findIn K (.ref cC_Module) "functions" = some none)
    (na_Module_tables : PySem.W.findIn K (.ref cC_Module) "tables" = some none)
    (na_Module_memories : PySem.W.findIn K (.ref cC_Module) "memories" = some none)
    (na_Module_tags : PySem.W.findIn K (.ref cC_Module) "tags" = some none)
    (na_Module_variables : PySem.W.findIn K (.ref cC_Module) "variables" = some none)
    (na_Module_exports : PySem.W.findIn K (.ref cC_Module) "exports" = some none)
    (na_Module_start : PySem.W.findIn K (.ref cC_Module) "start" = some none)
    (na_Module_table_segments : PySem.W.findIn K (.ref cC_Module) "table_segments" = some none)
    (na_Module_memory_segments : PySem.W.findIn K (.ref cC_Module) "memory_segments" = some none)
    {kD_Module ce_Module_signatures ce_Module_imports ce_Module_functions ce_Module_tables ce_Module_memories ce_Module_tags ce_Module_variables ce_Module_exports ce_Module_table_segments ce_Module_memory_segments : Addr}
    (am25 : PySem.W.findIn K (.ref cC_Module) "__init__" = some (some (.ref f25))) (im25 : PySem.W.isFn K (.ref f25) = true)
    (l25 : K.lookup f25 = some ⟨oc25, od25, .func (PySem.W.fnOf "__init__" "Module.__init__" (defArgs s_Module___init__) (defBody s_Module___init__) (defScope s_Module___init__) .none (.ref kD_Module) dc25 pm25 an25 cd25 ct25), sl25⟩) (c25 : PySem.W.codeIn K cd25 "Module.__init__" = true) (k25 : PySem.W.keepIn K (.ref f25) = true)
    (kq_Module_signatures : PySem.W.nsIn K kD_Module "signatures" = some (some (.ref ce_Module_signatures)))
    {od_Module_signatures : Option Addr} {its_Module_signatures : Array Value} {n_Module_signatures : Nat} {sl_Module_signatures : Array (Option Value)} (le_Module_signatures : K.lookup ce_Module_signatures = some ⟨.type "tuple", od_Module_signatures, .seq its_Module_signatures n_Module_signatures, sl_Module_signatures⟩) (ze_Module_signatures : its_Module_signatures.size ≤ sizeLine) (ve_Module_signatures : Vals [] its_Module_signatures.toList)
    (kq_Module_imports : PySem.W.nsIn K kD_Module "imports" = some (some (.ref ce_Module_imports)))
    {od_Module_imports : Option Addr} {its_Module_imports : Array Value} {n_Module_imports : Nat} {sl_Module_imports : Array (Option Value)} (le_Module_imports : K.lookup ce_Module_imports = some ⟨.type "tuple", od_Module_imports, .seq its_Module_imports n_Module_imports, sl_Module_imports⟩) (ze_Module_imports : its_Module_imports.size ≤ sizeLine) (ve_Module_imports : Vals [] its_Module_imports.toList)
    (kq_Module_functions : PySem.W.nsIn K kD_Module "functions" = some (some (.ref ce_Module_functions)))
    {od_Module_functions : Option Addr} {its_Module_functions : Array Value} {n_Module_functions : Nat} {sl_Module_functions : Array (Option Value)} (le_Module_functions : K.lookup ce_Module_functions = some ⟨.type "tuple", od_Module_functions, .seq its_Module_functions n_Module_functions, sl_Module_functions⟩) (ze_Module_functions : its_Module_functions.size ≤ sizeLine) (ve_Module_functions : Vals [] its_Module_functions.toList)
    (kq_Module_tables : PySem.W.nsIn K kD_Module "tables" = some (some (.ref ce_Module_tables)))
    {od_Module_tables : Option Addr} {its_Module_tables : Array Value} {n_Module_tables : Nat} {sl_Module_tables : Array (Option Value)} (le_Module_tables : K.lookup ce_Module_tables = some ⟨.type "tuple", od_Module_tables, .seq its_Module_tables n_Module_tables, sl_Module_tables⟩) (ze_Module_tables : its_Module_tables.size ≤ sizeLine) (ve_Module_tables : Vals [] its_Module_tables.toList)
    (kq_Module_memories : PySem.W.nsIn K kD_Module "memories" = some (some (.ref ce_Module_memories)))
    {od_Module_memories : Option Addr} {its_Module_memories : Array Value} {n_Module_memories : Nat} {sl_Module_memories : Array (Option Value)} (le_Module_memories : K.lookup ce_Module_memories = some ⟨.type "tuple", od_Module_memories, .seq its_Module_memories n_Module_memories, sl_Module_memories⟩) (ze_Module_memories : its_Module_memories.size ≤ sizeLine) (ve_Module_memories : Vals [] its_Module_memories.toList)
    (kq_Module_tags : PySem.W.nsIn K kD_Module "tags" = some (some (.ref ce_Module_tags)))
    {od_Module_tags : Option Addr} {its_Module_tags : Array Value} {n_Module_tags : Nat} {sl_Module_tags : Array (Option Value)} (le_Module_tags : K.lookup ce_Module_tags = some ⟨.type "tuple", od_Module_tags, .seq its_Module_tags n_Module_tags, sl_Module_tags⟩) (ze_Module_tags : its_Module_tags.size ≤ sizeLine) (ve_Module_tags : Vals [] its_Module_tags.toList)
    (kq_Module_variables : PySem.W.nsIn K kD_Module "variables" = some (some (.ref ce_Module_variables)))
    {od_Module_variables : Option Addr} {its_Module_variables : Array Value} {n_Module_variables : Nat} {sl_Module_variables : Array (Option Value)} (le_Module_variables : K.lookup ce_Module_variables = some ⟨.type "tuple", od_Module_variables, .seq its_Module_variables n_Module_variables, sl_Module_variables⟩) (ze_Module_variables : its_Module_variables.size ≤ sizeLine) (ve_Module_variables : Vals [] its_Module_variables.toList)
    (kq_Module_exports : PySem.W.nsIn K kD_Module "exports" = some (some (.ref ce_Module_exports)))
    {od_Module_exports : Option Addr} {its_Module_exports : Array Value} {n_Module_exports : Nat} {sl_Module_exports : Array (Option Value)} (le_Module_exports : K.lookup ce_Module_exports = some ⟨.type "tuple", od_Module_exports, .seq its_Module_exports n_Module_exports, sl_Module_exports⟩) (ze_Module_exports : its_Module_exports.size ≤ sizeLine) (ve_Module_exports : Vals [] its_Module_exports.toList)
    (kq_Module_start : PySem.W.nsIn K kD_Module "start" = some (some .none))
    (kq_Module_table_segments : PySem.W.nsIn K kD_Module "table_segments" = some (some (.ref ce_Module_table_segments)))
    {od_Module_table_segments : Option Addr} {its_Module_table_segments : Array Value} {n_Module_table_segments : Nat} {sl_Module_table_segments : Array (Option Value)} (le_Module_table_segments : K.lookup ce_Module_table_segments = some ⟨.type "tuple", od_Module_table_segments, .seq its_Module_table_segments n_Module_table_segments, sl_Module_table_segments⟩) (ze_Module_table_segments : its_Module_table_segments.size ≤ sizeLine) (ve_Module_table_segments : Vals [] its_Module_table_segments.toList)
    (kq_Module_memory_segments : PySem.W.nsIn K kD_Module "memory_segments" = some (some (.ref ce_Module_memory_segments)))
    {od_Module_memory_segments : Option Addr} {its_Module_memory_segments : Array Value} {n_Module_memory_segments : Nat} {sl_Module_memory_segments : Array (Option Value)} (le_Module_memory_segments : K.lookup ce_Module_memory_segments = some ⟨.type "tuple", od_Module_memory_segments, .seq its_Module_memory_segments n_Module_memory_segments, sl_Module_memory_segments⟩) (ze_Module_memory_segments : its_Module_memory_segments.size ≤ sizeLine) (ve_Module_memory_segments : Vals [] its_Module_memory_segments.toList)
    : ∃ fd : FuncData, (∀ (s : Shared) (v : Value), BindsTo s fd ⟨[v], []⟩ [("script", v)]) ∧ ∀ base : Heap, K.In base → base.Ns mainGlobals mg → FnOk l.prog w K mg base CX0 6 fa fd ["script"] (sp_lawK K) := by
  have e := hfa.symm.trans (PySem.W.mg_of X G a20)
  cases e
  have FI_ImportMissing := fun_mk (st := i_ImportMissing) lI_ImportMissing cdo_ImportMissing kI_ImportMissing
  have FI_ImportUnfit := fun_mk (st := i_ImportUnfit) lI_ImportUnfit cdo_ImportUnfit kI_ImportUnfit
  have FI_LimitReached := fun_mk (st := i_LimitReached) lI_LimitReached cdo_LimitReached kI_LimitReached
  have T : Tp w K mg (⟨cC_HostError, cC_ImportMissing, cI_ImportMissing, (PySem.W.fnOf "__init__" "ImportMissing.__init__" (defArgs i_ImportMissing) (defBody i_ImportMissing) (defScope i_ImportMissing) .none kVI_ImportMissing dcI_ImportMissing pmI_ImportMissing anI_ImportMissing cdI_ImportMissing ctI_ImportMissing), cC_ImportUnfit, cI_ImportUnfit, (PySem.W.fnOf "__init__" "ImportUnfit.__init__" (defArgs i_ImportUnfit) (defBody i_ImportUnfit) (defScope i_ImportUnfit) .none kVI_ImportUnfit dcI_ImportUnfit pmI_ImportUnfit anI_ImportUnfit cdI_ImportUnfit ctI_ImportUnfit), cC_LimitReached, cI_LimitReached, (PySem.W.fnOf "__init__" "LimitReached.__init__" (defArgs i_LimitReached) (defBody i_LimitReached) (defScope i_LimitReached) .none kVI_LimitReached dcI_LimitReached pmI_LimitReached anI_LimitReached cdI_LimitReached ctI_LimitReached), cC_Table, cC_Memory, cC_Global, cC_Store, cC_Module, ce_Module_signatures, ce_Module_imports, ce_Module_functions, ce_Module_tables, ce_Module_memories, ce_Module_tags, ce_Module_variables, ce_Module_exports, ce_Module_table_segments, ce_Module_memory_segments⟩ : Cs) := ⟨PySem.W.mg_none_of X G z_bool, PySem.W.mg_none_of X G z_enumerate, PySem.W.mg_none_of X G z_int, PySem.W.mg_none_of X G z_isinstance, PySem.W.mg_none_of X G z_len, PySem.W.mg_none_of X G z_list, PySem.W.mg_none_of X G z_max, PySem.W.mg_none_of X G z_range, PySem.W.mg_none_of X G z_tuple, PySem.W.mg_of X G aC_HostError, PySem.W.mg_of X G aC_ImportMissing, ⟨PySem.W.mg_of X G aC_ImportMissing, ⟨⟨nm_ImportMissing, qn_ImportMissing, N_ImportMissing, bs_ImportMissing, _, sn_ImportMissing, sub_ImportMissing, ab_ImportMissing, col_ImportMissing, dd_ImportMissing, m0_ImportMissing, m1_ImportMissing, m2_ImportMissing, m3_ImportMissing, m5_ImportMissing, xl_ImportMissing, by rfl⟩, sa_ImportMissing, ex_ImportMissing, ty_ImportMissing, kp_ImportMissing⟩, ga_ImportMissing, gg_ImportMissing, hd_ImportMissing, ca_ImportMissing, sp0, tk0, mr_ImportMissing⟩, aI_ImportMissing, tI_ImportMissing, FI_ImportMissing, FI_ImportMissing.binds (ps := ["self", "index"]) fun _ _ _ _ _ _ us hl => match us, hl with | [_, _], _ => rfl, no_ImportMissing_index, kit_two ne_ImportMissing_HostError hd_HostError ty_HostError sub_ImportMissing_HostError, PySem.W.exm_ref ex_HostError hd_HostError ty_HostError sub_ImportMissing_HostError, kit_self, PySem.W.exm_ref ex_ImportMissing hd_ImportMissing ty_ImportMissing sub_ImportMissing_ImportMissing, kit_two ne_ImportMissing_ImportUnfit hd_ImportUnfit ty_ImportUnfit sub_ImportMissing_ImportUnfit, PySem.W.exm_ref ex_ImportUnfit hd_ImportUnfit ty_ImportUnfit sub_ImportMissing_ImportUnfit, kit_two ne_ImportMissing_LimitReached hd_LimitReached ty_LimitReached sub_ImportMissing_LimitReached, PySem.W.exm_ref ex_LimitReached hd_LimitReached ty_LimitReached sub_ImportMissing_LimitReached, kit_ve sub_ImportMissing_VE, PySem.W.mg_of X G aC_ImportUnfit, ⟨PySem.W.mg_of X G aC_ImportUnfit, ⟨⟨nm_ImportUnfit, qn_ImportUnfit, N_ImportUnfit, bs_ImportUnfit, _, sn_ImportUnfit, sub_ImportUnfit, ab_ImportUnfit, col_ImportUnfit, dd_ImportUnfit, m0_ImportUnfit, m1_ImportUnfit, m2_ImportUnfit, m3_ImportUnfit, m5_ImportUnfit, xl_ImportUnfit, by rfl⟩, sa_ImportUnfit, ex_ImportUnfit, ty_ImportUnfit, kp_ImportUnfit⟩, ga_ImportUnfit, gg_ImportUnfit, hd_ImportUnfit, ca_ImportUnfit, sp0, tk0, mr_ImportUnfit⟩, aI_ImportUnfit, tI_ImportUnfit, FI_ImportUnfit, FI_ImportUnfit.binds (ps := ["self", "index"]) fun _ _ _ _ _ _ us hl => match us, hl with | [_, _], _ => rfl, no_ImportUnfit_index, kit_two ne_ImportUnfit_HostError hd_HostError ty_HostError sub_ImportUnfit_HostError, PySem.W.exm_ref ex_HostError hd_HostError ty_HostError sub_ImportUnfit_HostError, kit_two ne_ImportUnfit_ImportMissing hd_ImportMissing ty_ImportMissing sub_ImportUnfit_ImportMissing, PySem.W.exm_ref ex_ImportMissing hd_ImportMissing ty_ImportMissing sub_ImportUnfit_ImportMissing, kit_self, PySem.W.exm_ref ex_ImportUnfit hd_ImportUnfit ty_ImportUnfit sub_ImportUnfit_ImportUnfit, kit_two ne_ImportUnfit_LimitReached hd_LimitReached ty_LimitReached sub_ImportUnfit_LimitReached, PySem.W.exm_ref ex_LimitReached hd_LimitReached ty_LimitReached sub_ImportUnfit_LimitReached, kit_ve sub_ImportUnfit_VE, PySem.W.mg_of X G aC_LimitReached, ⟨PySem.W.mg_of X G aC_LimitReached, ⟨⟨nm_LimitReached, qn_LimitReached, N_LimitReached, bs_LimitReached, _, sn_LimitReached, sub_LimitReached, ab_LimitReached, col_LimitReached, dd_LimitReached, m0_LimitReached, m1_LimitReached, m2_LimitReached, m3_LimitReached, m5_LimitReached, xl_LimitReached, by rfl⟩, sa_LimitReached, ex_LimitReached, ty_LimitReached, kp_LimitReached⟩, ga_LimitReached, gg_LimitReached, hd_LimitReached, ca_LimitReached, sp0, tk0, mr_LimitReached⟩, aI_LimitReached, tI_LimitReached, FI_LimitReached, FI_LimitReached.binds (ps := ["self", "what"]) fun _ _ _ _ _ _ us hl => match us, hl with | [_, _], _ => rfl, no_LimitReached_what, kit_two ne_LimitReached_HostError hd_HostError ty_HostError sub_LimitReached_HostError, PySem.W.exm_ref ex_HostError hd_HostError ty_HostError sub_LimitReached_HostError, kit_two ne_LimitReached_ImportMissing hd_ImportMissing ty_ImportMissing sub_LimitReached_ImportMissing, PySem.W.exm_ref ex_ImportMissing hd_ImportMissing ty_ImportMissing sub_LimitReached_ImportMissing, kit_two ne_LimitReached_ImportUnfit hd_ImportUnfit ty_ImportUnfit sub_LimitReached_ImportUnfit, PySem.W.exm_ref ex_ImportUnfit hd_ImportUnfit ty_ImportUnfit sub_LimitReached_ImportUnfit, kit_self, PySem.W.exm_ref ex_LimitReached hd_LimitReached ty_LimitReached sub_LimitReached_LimitReached, kit_ve sub_LimitReached_VE, ⟨_, PySem.W.mg_of X G ai_MOST_KINDS⟩, ⟨_, PySem.W.mg_of X G ai_MOST_HOSTS⟩, PySem.W.mg_of X G aC_Table, ⟨pg_Table, hd_Table, po_Table, sa_Table⟩, na_Table_entries, na_Table_most, PySem.W.mg_of X G aC_Memory, ⟨pg_Memory, hd_Memory, po_Memory, sa_Memory⟩, na_Memory_pages, na_Memory_most, na_Memory_cells, PySem.W.mg_of X G aC_Global, ⟨pg_Global, hd_Global, po_Global, sa_Global⟩, na_Global_kind, na_Global_mutable, na_Global_value, PySem.W.mg_of X G aC_Store, ⟨pg_Store, hd_Store, po_Store, sa_Store⟩, na_Store_functions, na_Store_tables, na_Store_memories, na_Store_variables, na_Store_tags, na_Store_instances, PySem.W.mg_of X G aC_Module, ⟨pg_Module, hd_Module, po_Module, sa_Module⟩, na_Module_signatures, na_Module_imports, na_Module_functions, na_Module_tables, na_Module_memories, na_Module_tags, na_Module_variables, na_Module_exports, na_Module_start, na_Module_table_segments, na_Module_memory_segments, ⟨_, _, _, le_Module_signatures, rfl, rfl, ze_Module_signatures, ve_Module_signatures⟩, ⟨_, _, _, le_Module_imports, rfl, rfl, ze_Module_imports, ve_Module_imports⟩, ⟨_, _, _, le_Module_functions, rfl, rfl, ze_Module_functions, ve_Module_functions⟩, ⟨_, _, _, le_Module_tables, rfl, rfl, ze_Module_tables, ve_Module_tables⟩, ⟨_, _, _, le_Module_memories, rfl, rfl, ze_Module_memories, ve_Module_memories⟩, ⟨_, _, _, le_Module_tags, rfl, rfl, ze_Module_tags, ve_Module_tags⟩, ⟨_, _, _, le_Module_variables, rfl, rfl, ze_Module_variables, ve_Module_variables⟩, ⟨_, _, _, le_Module_exports, rfl, rfl, ze_Module_exports, ve_Module_exports⟩, ⟨_, _, _, le_Module_table_segments, rfl, rfl, ze_Module_table_segments, ve_Module_table_segments⟩, ⟨_, _, _, le_Module_memory_segments, rfl, rfl, ze_Module_memory_segments, ve_Module_memory_segments⟩⟩
  have F0 := fun_mk (st := s_items_of) l0 c0 k0
  have D_items_of : Def K mg "items_of" s_items_of ["owner", "kind"] := ⟨_, _, F0, PySem.W.mg_of X G a0, F0.binds (ps := ["owner", "kind"]) fun _ _ _ _ _ _ us hl => match us, hl with | [_, _], _ => rfl⟩
  have F1 := fun_mk (st := s_host_functions) l1 c1 k1
  have D_host_functions : Def K mg "host_functions" s_host_functions ["store"] := ⟨_, _, F1, PySem.W.mg_of X G a1, F1.binds (ps := ["store"]) fun _ _ _ _ _ _ us hl => match us, hl with | [_], _ => rfl⟩
  have F2 := fun_mk (st := s_lookup) l2 c2 k2
  have D_lookup : Def K mg "lookup" s_lookup ["names", "module", "name"] := ⟨_, _, F2, PySem.W.mg_of X G a2, F2.binds (ps := ["names", "module", "name"]) fun _ _ _ _ _ _ us hl => match us, hl with | [_, _, _], _ => rfl⟩
  have F3 := fun_mk (st := s_check_signature) l3 c3 k3
  have D_check_signature : Def K mg "check_signature" s_check_signature ["params", "results"] := ⟨_, _, F3, PySem.W.mg_of X G a3, F3.binds (ps := ["params", "results"]) fun _ _ _ _ _ _ us hl => match us, hl with | [_, _], _ => rfl⟩
  have F4 := fun_mk (st := s_add_host) l4 c4 k4
  have D_add_host : Def K mg "add_host" s_add_host ["store", "params", "results"] := ⟨_, _, F4, PySem.W.mg_of X G a4, F4.binds (ps := ["store", "params", "results"]) fun _ _ _ _ _ _ us hl => match us, hl with | [_, _, _], _ => rfl⟩
  have F5 := fun_mk (st := s_size_fits) l5 c5 k5
  have D_size_fits : Def K mg "size_fits" s_size_fits ["size", "most", "limit"] := ⟨_, _, F5, PySem.W.mg_of X G a5, F5.binds (ps := ["size", "most", "limit"]) fun _ _ _ _ _ _ us hl => match us, hl with | [_, _, _], _ => rfl⟩
  have F6 := fun_mk (st := s_item_fits) l6 c6 k6
  have D_item_fits : Def K mg "item_fits" s_item_fits ["store", "module", "row", "number"] := ⟨_, _, F6, PySem.W.mg_of X G a6, F6.binds (ps := ["store", "module", "row", "number"]) fun _ _ _ _ _ _ us hl => match us, hl with | [_, _, _, _], _ => rfl⟩
  have F7 := fun_mk (st := s_resolve) l7 c7 k7
  have D_resolve : Def K mg "resolve" s_resolve ["store", "names", "module"] := ⟨_, _, F7, PySem.W.mg_of X G a7, F7.binds (ps := ["store", "names", "module"]) fun _ _ _ _ _ _ us hl => match us, hl with | [_, _, _], _ => rfl⟩
  have F8 := fun_mk (st := s__law_tape) l8 c8 k8
  have D__law_tape : Def K mg "_law_tape" s__law_tape ["script"] := ⟨_, _, F8, PySem.W.mg_of X G a8, F8.binds (ps := ["script"]) fun _ _ _ _ _ _ us hl => match us, hl with | [_], _ => rfl⟩
  have F9 := fun_mk (st := s__law_draw) l9 c9 k9
  have D__law_draw : Def K mg "_law_draw" s__law_draw ["tape", "at", "many"] := ⟨_, _, F9, PySem.W.mg_of X G a9, F9.binds (ps := ["tape", "at", "many"]) fun _ _ _ _ _ _ us hl => match us, hl with | [_, _, _], _ => rfl⟩
  have F10 := fun_mk (st := s__law_is_int) l10 c10 k10
  have D__law_is_int : Def K mg "_law_is_int" s__law_is_int ["actual"] := ⟨_, _, F10, PySem.W.mg_of X G a10, F10.binds (ps := ["actual"]) fun _ _ _ _ _ _ us hl => match us, hl with | [_], _ => rfl⟩
  have F11 := fun_mk (st := s__law_shapes) l11 c11 k11
  have D__law_shapes : Def K mg "_law_shapes" s__law_shapes [] := ⟨_, _, F11, PySem.W.mg_of X G a11, F11.binds (ps := []) fun _ _ _ _ _ _ us hl => match us, hl with | [], _ => rfl⟩
  have F12 := fun_mk (st := s__law_items) l12 c12 k12
  have D__law_items : Def K mg "_law_items" s__law_items ["tape"] := ⟨_, _, F12, PySem.W.mg_of X G a12, F12.binds (ps := ["tape"]) fun _ _ _ _ _ _ us hl => match us, hl with | [_], _ => rfl⟩
  have F13 := fun_mk (st := s__law_store) l13 c13 k13
  have D__law_store : Def K mg "_law_store" s__law_store ["items"] := ⟨_, _, F13, PySem.W.mg_of X G a13, F13.binds (ps := ["items"]) fun _ _ _ _ _ _ us hl => match us, hl with | [_], _ => rfl⟩
  have F14 := fun_mk (st := s__law_pair) l14 c14 k14
  have D__law_pair : Def K mg "_law_pair" s__law_pair ["tape", "at"] := ⟨_, _, F14, PySem.W.mg_of X G a14, F14.binds (ps := ["tape", "at"]) fun _ _ _ _ _ _ us hl => match us, hl with | [_, _], _ => rfl⟩
  have F15 := fun_mk (st := s__law_what) l15 c15 k15
  have D__law_what : Def K mg "_law_what" s__law_what ["tape", "at", "kind", "item"] := ⟨_, _, F15, PySem.W.mg_of X G a15, F15.binds (ps := ["tape", "at", "kind", "item"]) fun _ _ _ _ _ _ us hl => match us, hl with | [_, _, _, _], _ => rfl⟩
  have F16 := fun_mk (st := s__law_fits) l16 c16 k16
  have D__law_fits : Def K mg "_law_fits" s__law_fits ["kind", "what", "item"] := ⟨_, _, F16, PySem.W.mg_of X G a16, F16.binds (ps := ["kind", "what", "item"]) fun _ _ _ _ _ _ us hl => match us, hl with | [_, _, _], _ => rfl⟩
  have F17 := fun_mk (st := s__law_imports) l17 c17 k17
  have D__law_imports : Def K mg "_law_imports" s__law_imports ["tape", "names", "items"] := ⟨_, _, F17, PySem.W.mg_of X G a17, F17.binds (ps := ["tape", "names", "items"]) fun _ _ _ _ _ _ us hl => match us, hl with | [_, _, _], _ => rfl⟩
  have F18 := fun_mk (st := s__law_due) l18 c18 k18
  have D__law_due : Def K mg "_law_due" s__law_due ["rows", "names", "items"] := ⟨_, _, F18, PySem.W.mg_of X G a18, F18.binds (ps := ["rows", "names", "items"]) fun _ _ _ _ _ _ us hl => match us, hl with | [_, _, _], _ => rfl⟩
  have F19 := fun_mk (st := s__law_answer) l19 c19 k19
  have D__law_answer : Def K mg "_law_answer" s__law_answer ["store", "names", "module"] := ⟨_, _, F19, PySem.W.mg_of X G a19, F19.binds (ps := ["store", "names", "module"]) fun _ _ _ _ _ _ us hl => match us, hl with | [_, _, _], _ => rfl⟩
  have F20 := fun_mk (st := s_law) l20 c20 k20
  have F21 := fun_mk (st := s_Table___init__) l21 c21 k21
  have D_Table___init__ : DefI K (Cs.C_Table (⟨cC_HostError, cC_ImportMissing, cI_ImportMissing, (PySem.W.fnOf "__init__" "ImportMissing.__init__" (defArgs i_ImportMissing) (defBody i_ImportMissing) (defScope i_ImportMissing) .none kVI_ImportMissing dcI_ImportMissing pmI_ImportMissing anI_ImportMissing cdI_ImportMissing ctI_ImportMissing), cC_ImportUnfit, cI_ImportUnfit, (PySem.W.fnOf "__init__" "ImportUnfit.__init__" (defArgs i_ImportUnfit) (defBody i_ImportUnfit) (defScope i_ImportUnfit) .none kVI_ImportUnfit dcI_ImportUnfit pmI_ImportUnfit anI_ImportUnfit cdI_ImportUnfit ctI_ImportUnfit), cC_LimitReached, cI_LimitReached, (PySem.W.fnOf "__init__" "LimitReached.__init__" (defArgs i_LimitReached) (defBody i_LimitReached) (defScope i_LimitReached) .none kVI_LimitReached dcI_LimitReached pmI_LimitReached anI_LimitReached cdI_LimitReached ctI_LimitReached), cC_Table, cC_Memory, cC_Global, cC_Store, cC_Module, ce_Module_signatures, ce_Module_imports, ce_Module_functions, ce_Module_tables, ce_Module_memories, ce_Module_tags, ce_Module_variables, ce_Module_exports, ce_Module_table_segments, ce_Module_memory_segments⟩ : Cs)) "Table.__init__" s_Table___init__ ["self", "size", "most"] := ⟨_, _, F21, ⟨mk_Table, am21, im21, kc_Table⟩, F21.binds (ps := ["self", "size", "most"]) fun _ _ _ _ _ _ us hl => match us, hl with | [_, _, _], _ => rfl⟩
  have F22 := fun_mk (st := s_Memory___init__) l22 c22 k22
  have D_Memory___init__ : DefI K (Cs.C_Memory (⟨cC_HostError, cC_ImportMissing, cI_ImportMissing, (PySem.W.fnOf "__init__" "ImportMissing.__init__" (defArgs i_ImportMissing) (defBody i_ImportMissing) (defScope i_ImportMissing) .none kVI_ImportMissing dcI_ImportMissing pmI_ImportMissing anI_ImportMissing cdI_ImportMissing ctI_ImportMissing), cC_ImportUnfit, cI_ImportUnfit, (PySem.W.fnOf "__init__" "ImportUnfit.__init__" (defArgs i_ImportUnfit) (defBody i_ImportUnfit) (defScope i_ImportUnfit) .none kVI_ImportUnfit dcI_ImportUnfit pmI_ImportUnfit anI_ImportUnfit cdI_ImportUnfit ctI_ImportUnfit), cC_LimitReached, cI_LimitReached, (PySem.W.fnOf "__init__" "LimitReached.__init__" (defArgs i_LimitReached) (defBody i_LimitReached) (defScope i_LimitReached) .none kVI_LimitReached dcI_LimitReached pmI_LimitReached anI_LimitReached cdI_LimitReached ctI_LimitReached), cC_Table, cC_Memory, cC_Global, cC_Store, cC_Module, ce_Module_signatures, ce_Module_imports, ce_Module_functions, ce_Module_tables, ce_Module_memories, ce_Module_tags, ce_Module_variables, ce_Module_exports, ce_Module_table_segments, ce_Module_memory_segments⟩ : Cs)) "Memory.__init__" s_Memory___init__ ["self", "pages", "most"] := ⟨_, _, F22, ⟨mk_Memory, am22, im22, kc_Memory⟩, F22.binds (ps := ["self", "pages", "most"]) fun _ _ _ _ _ _ us hl => match us, hl with | [_, _, _], _ => rfl⟩
  have F23 := fun_mk (st := s_Global___init__) l23 c23 k23
  have D_Global___init__ : DefI K (Cs.C_Global (⟨cC_HostError, cC_ImportMissing, cI_ImportMissing, (PySem.W.fnOf "__init__" "ImportMissing.__init__" (defArgs i_ImportMissing) (defBody i_ImportMissing) (defScope i_ImportMissing) .none kVI_ImportMissing dcI_ImportMissing pmI_ImportMissing anI_ImportMissing cdI_ImportMissing ctI_ImportMissing), cC_ImportUnfit, cI_ImportUnfit, (PySem.W.fnOf "__init__" "ImportUnfit.__init__" (defArgs i_ImportUnfit) (defBody i_ImportUnfit) (defScope i_ImportUnfit) .none kVI_ImportUnfit dcI_ImportUnfit pmI_ImportUnfit anI_ImportUnfit cdI_ImportUnfit ctI_ImportUnfit), cC_LimitReached, cI_LimitReached, (PySem.W.fnOf "__init__" "LimitReached.__init__" (defArgs i_LimitReached) (defBody i_LimitReached) (defScope i_LimitReached) .none kVI_LimitReached dcI_LimitReached pmI_LimitReached anI_LimitReached cdI_LimitReached ctI_LimitReached), cC_Table, cC_Memory, cC_Global, cC_Store, cC_Module, ce_Module_signatures, ce_Module_imports, ce_Module_functions, ce_Module_tables, ce_Module_memories, ce_Module_tags, ce_Module_variables, ce_Module_exports, ce_Module_table_segments, ce_Module_memory_segments⟩ : Cs)) "Global.__init__" s_Global___init__ ["self", "kind", "mutable", "value"] := ⟨_, _, F23, ⟨mk_Global, am23, im23, kc_Global⟩, F23.binds (ps := ["self", "kind", "mutable", "value"]) fun _ _ _ _ _ _ us hl => match us, hl with | [_, _, _, _], _ => rfl⟩
  have F24 := fun_mk (st := s_Store___init__) l24 c24 k24
  have D_Store___init__ : DefI K (Cs.C_Store (⟨cC_HostError, cC_ImportMissing, cI_ImportMissing, (PySem.W.fnOf "__init__" "ImportMissing.__init__" (defArgs i_ImportMissing) (defBody i_ImportMissing) (defScope i_ImportMissing) .none kVI_ImportMissing dcI_ImportMissing pmI_ImportMissing anI_ImportMissing cdI_ImportMissing ctI_ImportMissing), cC_ImportUnfit, cI_ImportUnfit, (PySem.W.fnOf "__init__" "ImportUnfit.__init__" (defArgs i_ImportUnfit) (defBody i_ImportUnfit) (defScope i_ImportUnfit) .none kVI_ImportUnfit dcI_ImportUnfit pmI_ImportUnfit anI_ImportUnfit cdI_ImportUnfit ctI_ImportUnfit), cC_LimitReached, cI_LimitReached, (PySem.W.fnOf "__init__" "LimitReached.__init__" (defArgs i_LimitReached) (defBody i_LimitReached) (defScope i_LimitReached) .none kVI_LimitReached dcI_LimitReached pmI_LimitReached anI_LimitReached cdI_LimitReached ctI_LimitReached), cC_Table, cC_Memory, cC_Global, cC_Store, cC_Module, ce_Module_signatures, ce_Module_imports, ce_Module_functions, ce_Module_tables, ce_Module_memories, ce_Module_tags, ce_Module_variables, ce_Module_exports, ce_Module_table_segments, ce_Module_memory_segments⟩ : Cs)) "Store.__init__" s_Store___init__ ["self"] := ⟨_, _, F24, ⟨mk_Store, am24, im24, kc_Store⟩, F24.binds (ps := ["self"]) fun _ _ _ _ _ _ us hl => match us, hl with | [_], _ => rfl⟩
  have D_Module___init__ : DefK K (Cs.C_Module (⟨cC_HostError, cC_ImportMissing, cI_ImportMissing, (PySem.W.fnOf "__init__" "ImportMissing.__init__" (defArgs i_ImportMissing) (defBody i_ImportMissing) (defScope i_ImportMissing) .none kVI_ImportMissing dcI_ImportMissing pmI_ImportMissing anI_ImportMissing cdI_ImportMissing ctI_ImportMissing), cC_ImportUnfit, cI_ImportUnfit, (PySem.W.fnOf "__init__" "ImportUnfit.__init__" (defArgs i_ImportUnfit) (defBody i_ImportUnfit) (defScope i_ImportUnfit) .none kVI_ImportUnfit dcI_ImportUnfit pmI_ImportUnfit anI_ImportUnfit cdI_ImportUnfit ctI_ImportUnfit), cC_LimitReached, cI_LimitReached, (PySem.W.fnOf "__init__" "LimitReached.__init__" (defArgs i_LimitReached) (defBody i_LimitReached) (defScope i_LimitReached) .none kVI_LimitReached dcI_LimitReached pmI_LimitReached anI_LimitReached cdI_LimitReached ctI_LimitReached), cC_Table, cC_Memory, cC_Global, cC_Store, cC_Module, ce_Module_signatures, ce_Module_imports, ce_Module_functions, ce_Module_tables, ce_Module_memories, ce_Module_tags, ce_Module_variables, ce_Module_exports, ce_Module_table_segments, ce_Module_memory_segments⟩ : Cs)) "Module.__init__" s_Module___init__ (kws_Module (⟨cC_HostError, cC_ImportMissing, cI_ImportMissing, (PySem.W.fnOf "__init__" "ImportMissing.__init__" (defArgs i_ImportMissing) (defBody i_ImportMissing) (defScope i_ImportMissing) .none kVI_ImportMissing dcI_ImportMissing pmI_ImportMissing anI_ImportMissing cdI_ImportMissing ctI_ImportMissing), cC_ImportUnfit, cI_ImportUnfit, (PySem.W.fnOf "__init__" "ImportUnfit.__init__" (defArgs i_ImportUnfit) (defBody i_ImportUnfit) (defScope i_ImportUnfit) .none kVI_ImportUnfit dcI_ImportUnfit pmI_ImportUnfit anI_ImportUnfit cdI_ImportUnfit ctI_ImportUnfit), cC_LimitReached, cI_LimitReached, (PySem.W.fnOf "__init__" "LimitReached.__init__" (defArgs i_LimitReached) (defBody i_LimitReached) (defScope i_LimitReached) .none kVI_LimitReached dcI_LimitReached pmI_LimitReached anI_LimitReached cdI_LimitReached ctI_LimitReached), cC_Table, cC_Memory, cC_Global, cC_Store, cC_Module, ce_Module_signatures, ce_Module_imports, ce_Module_functions, ce_Module_tables, ce_Module_memories, ce_Module_tags, ce_Module_variables, ce_Module_exports, ce_Module_table_segments, ce_Module_memory_segments⟩ : Cs)) := ⟨_, _, ⟨⟨_, _, _, _, _, _, _, _, _, _, rfl, l25, c25, .inl ⟨rfl, rfl⟩, .inr ⟨kD_Module, rfl, fun q hq => by
    unfold kws_Module at hq
    simp only [List.mem_cons, List.not_mem_nil, or_false] at hq
    rcases hq with rfl | rfl | rfl | rfl | rfl | rfl | rfl | rfl | rfl | rfl | rfl
    · exact ⟨_, kq_Module_signatures, rfl⟩
    · exact ⟨_, kq_Module_imports, rfl⟩
    · exact ⟨_, kq_Module_functions, rfl⟩
    · exact ⟨_, kq_Module_tables, rfl⟩
    · exact ⟨_, kq_Module_memories, rfl⟩
    · exact ⟨_, kq_Module_tags, rfl⟩
    · exact ⟨_, kq_Module_variables, rfl⟩
    · exact ⟨_, kq_Module_exports, rfl⟩
    · exact ⟨_, kq_Module_start, rfl⟩
    · exact ⟨_, kq_Module_table_segments, rfl⟩
    · exact ⟨_, kq_Module_memory_segments, rfl⟩
    ⟩⟩, k25⟩, ⟨mk_Module, am25, im25, kc_Module⟩⟩
  refine ⟨PySem.W.fnOf "law" "law" (defArgs s_law) (defBody s_law) (defScope s_law) .none kV20 dc20 pm20 an20 cd20 ct20, fun s v => .of_eq rfl, fun base _ _ => ?_⟩
  have C__law_tape : Cal l.prog w K mg base CX0 1 "_law_tape" (sp__law_tape K (⟨cC_HostError, cC_ImportMissing, cI_ImportMissing, (PySem.W.fnOf "__init__" "ImportMissing.__init__" (defArgs i_ImportMissing) (defBody i_ImportMissing) (defScope i_ImportMissing) .none kVI_ImportMissing dcI_ImportMissing pmI_ImportMissing anI_ImportMissing cdI_ImportMissing ctI_ImportMissing), cC_ImportUnfit, cI_ImportUnfit, (PySem.W.fnOf "__init__" "ImportUnfit.__init__" (defArgs i_ImportUnfit) (defBody i_ImportUnfit) (defScope i_ImportUnfit) .none kVI_ImportUnfit dcI_ImportUnfit pmI_ImportUnfit anI_ImportUnfit cdI_ImportUnfit ctI_ImportUnfit), cC_LimitReached, cI_LimitReached, (PySem.W.fnOf "__init__" "LimitReached.__init__" (defArgs i_LimitReached) (defBody i_LimitReached) (defScope i_LimitReached) .none kVI_LimitReached dcI_LimitReached pmI_LimitReached anI_LimitReached cdI_LimitReached ctI_LimitReached), cC_Table, cC_Memory, cC_Global, cC_Store, cC_Module, ce_Module_signatures, ce_Module_imports, ce_Module_functions, ce_Module_tables, ce_Module_memories, ce_Module_tags, ce_Module_variables, ce_Module_exports, ce_Module_table_segments, ce_Module_memory_segments⟩ : Cs)) := c__law_tape D__law_tape T 
  have C__law_shapes : Cal l.prog w K mg base CX0 1 "_law_shapes" (sp__law_shapes K (⟨cC_HostError, cC_ImportMissing, cI_ImportMissing, (PySem.W.fnOf "__init__" "ImportMissing.__init__" (defArgs i_ImportMissing) (defBody i_ImportMissing) (defScope i_ImportMissing) .none kVI_ImportMissing dcI_ImportMissing pmI_ImportMissing anI_ImportMissing cdI_ImportMissing ctI_ImportMissing), cC_ImportUnfit, cI_ImportUnfit, (PySem.W.fnOf "__init__" "ImportUnfit.__init__" (defArgs i_ImportUnfit) (defBody i_ImportUnfit) (defScope i_ImportUnfit) .none kVI_ImportUnfit dcI_ImportUnfit pmI_ImportUnfit anI_ImportUnfit cdI_ImportUnfit ctI_ImportUnfit), cC_LimitReached, cI_LimitReached, (PySem.W.fnOf "__init__" "LimitReached.__init__" (defArgs i_LimitReached) (defBody i_LimitReached) (defScope i_LimitReached) .none kVI_LimitReached dcI_LimitReached pmI_LimitReached anI_LimitReached cdI_LimitReached ctI_LimitReached), cC_Table, cC_Memory, cC_Global, cC_Store, cC_Module, ce_Module_signatures, ce_Module_imports, ce_Module_functions, ce_Module_tables, ce_Module_memories, ce_Module_tags, ce_Module_variables, ce_Module_exports, ce_Module_table_segments, ce_Module_memory_segments⟩ : Cs)) := c__law_shapes D__law_shapes T 
  have C__law_draw : Cal l.prog w K mg base CX0 1 "_law_draw" (sp__law_draw K (⟨cC_HostError, cC_ImportMissing, cI_ImportMissing, (PySem.W.fnOf "__init__" "ImportMissing.__init__" (defArgs i_ImportMissing) (defBody i_ImportMissing) (defScope i_ImportMissing) .none kVI_ImportMissing dcI_ImportMissing pmI_ImportMissing anI_ImportMissing cdI_ImportMissing ctI_ImportMissing), cC_ImportUnfit, cI_ImportUnfit, (PySem.W.fnOf "__init__" "ImportUnfit.__init__" (defArgs i_ImportUnfit) (defBody i_ImportUnfit) (defScope i_ImportUnfit) .none kVI_ImportUnfit dcI_ImportUnfit pmI_ImportUnfit anI_ImportUnfit cdI_ImportUnfit ctI_ImportUnfit), cC_LimitReached, cI_LimitReached, (PySem.W.fnOf "__init__" "LimitReached.__init__" (defArgs i_LimitReached) (defBody i_LimitReached) (defScope i_LimitReached) .none kVI_LimitReached dcI_LimitReached pmI_LimitReached anI_LimitReached cdI_LimitReached ctI_LimitReached), cC_Table, cC_Memory, cC_Global, cC_Store, cC_Module, ce_Module_signatures, ce_Module_imports, ce_Module_functions, ce_Module_tables, ce_Module_memories, ce_Module_tags, ce_Module_variables, ce_Module_exports, ce_Module_table_segments, ce_Module_memory_segments⟩ : Cs)) := c__law_draw D__law_draw T 
  have C__law_items : Cal l.prog w K mg base CX0 2 "_law_items" (sp__law_items K (⟨cC_HostError, cC_ImportMissing, cI_ImportMissing, (PySem.W.fnOf "__init__" "ImportMissing.__init__" (defArgs i_ImportMissing) (defBody i_ImportMissing) (defScope i_ImportMissing) .none kVI_ImportMissing dcI_ImportMissing pmI_ImportMissing anI_ImportMissing cdI_ImportMissing ctI_ImportMissing), cC_ImportUnfit, cI_ImportUnfit, (PySem.W.fnOf "__init__" "ImportUnfit.__init__" (defArgs i_ImportUnfit) (defBody i_ImportUnfit) (defScope i_ImportUnfit) .none kVI_ImportUnfit dcI_ImportUnfit pmI_ImportUnfit anI_ImportUnfit cdI_ImportUnfit ctI_ImportUnfit), cC_LimitReached, cI_LimitReached, (PySem.W.fnOf "__init__" "LimitReached.__init__" (defArgs i_LimitReached) (defBody i_LimitReached) (defScope i_LimitReached) .none kVI_LimitReached dcI_LimitReached pmI_LimitReached anI_LimitReached cdI_LimitReached ctI_LimitReached), cC_Table, cC_Memory, cC_Global, cC_Store, cC_Module, ce_Module_signatures, ce_Module_imports, ce_Module_functions, ce_Module_tables, ce_Module_memories, ce_Module_tags, ce_Module_variables, ce_Module_exports, ce_Module_table_segments, ce_Module_memory_segments⟩ : Cs)) := c__law_items D__law_items T C__law_shapes C__law_draw
  have C_Store___init__ : CalI l.prog w K mg base CX0 (Cs.C_Store (⟨cC_HostError, cC_ImportMissing, cI_ImportMissing, (PySem.W.fnOf "__init__" "ImportMissing.__init__" (defArgs i_ImportMissing) (defBody i_ImportMissing) (defScope i_ImportMissing) .none kVI_ImportMissing dcI_ImportMissing pmI_ImportMissing anI_ImportMissing cdI_ImportMissing ctI_ImportMissing), cC_ImportUnfit, cI_ImportUnfit, (PySem.W.fnOf "__init__" "ImportUnfit.__init__" (defArgs i_ImportUnfit) (defBody i_ImportUnfit) (defScope i_ImportUnfit) .none kVI_ImportUnfit dcI_ImportUnfit pmI_ImportUnfit anI_ImportUnfit cdI_ImportUnfit ctI_ImportUnfit), cC_LimitReached, cI_LimitReached, (PySem.W.fnOf "__init__" "LimitReached.__init__" (defArgs i_LimitReached) (defBody i_LimitReached) (defScope i_LimitReached) .none kVI_LimitReached dcI_LimitReached pmI_LimitReached anI_LimitReached cdI_LimitReached ctI_LimitReached), cC_Table, cC_Memory, cC_Global, cC_Store, cC_Module, ce_Module_signatures, ce_Module_imports, ce_Module_functions, ce_Module_tables, ce_Module_memories, ce_Module_tags, ce_Module_variables, ce_Module_exports, ce_Module_table_segments, ce_Module_memory_segments⟩ : Cs)) 1 (sp_Store___init__ K (⟨cC_HostError, cC_ImportMissing, cI_ImportMissing, (PySem.W.fnOf "__init__" "ImportMissing.__init__" (defArgs i_ImportMissing) (defBody i_ImportMissing) (defScope i_ImportMissing) .none kVI_ImportMissing dcI_ImportMissing pmI_ImportMissing anI_ImportMissing cdI_ImportMissing ctI_ImportMissing), cC_ImportUnfit, cI_ImportUnfit, (PySem.W.fnOf "__init__" "ImportUnfit.__init__" (defArgs i_ImportUnfit) (defBody i_ImportUnfit) (defScope i_ImportUnfit) .none kVI_ImportUnfit dcI_ImportUnfit pmI_ImportUnfit anI_ImportUnfit cdI_ImportUnfit ctI_ImportUnfit), cC_LimitReached, cI_LimitReached, (PySem.W.fnOf "__init__" "LimitReached.__init__" (defArgs i_LimitReached) (defBody i_LimitReached) (defScope i_LimitReached) .none kVI_LimitReached dcI_LimitReached pmI_LimitReached anI_LimitReached cdI_LimitReached ctI_LimitReached), cC_Table, cC_Memory, cC_Global, cC_Store, cC_Module, ce_Module_signatures, ce_Module_imports, ce_Module_functions, ce_Module_tables, ce_Module_memories, ce_Module_tags, ce_Module_variables, ce_Module_exports, ce_Module_table_segments, ce_Module_memory_segments⟩ : Cs)) := c_Store___init__ D_Store___init__ T 
  have C_check_signature : Cal l.prog w K mg base (L2.CX l.prog w) 3 "check_signature" (sp_check_signature K (⟨cC_HostError, cC_ImportMissing, cI_ImportMissing, (PySem.W.fnOf "__init__" "ImportMissing.__init__" (defArgs i_ImportMissing) (defBody i_ImportMissing) (defScope i_ImportMissing) .none kVI_ImportMissing dcI_ImportMissing pmI_ImportMissing anI_ImportMissing cdI_ImportMissing ctI_ImportMissing), cC_ImportUnfit, cI_ImportUnfit, (PySem.W.fnOf "__init__" "ImportUnfit.__init__" (defArgs i_ImportUnfit) (defBody i_ImportUnfit) (defScope i_ImportUnfit) .none kVI_ImportUnfit dcI_ImportUnfit pmI_ImportUnfit anI_ImportUnfit cdI_ImportUnfit ctI_ImportUnfit), cC_LimitReached, cI_LimitReached, (PySem.W.fnOf "__init__" "LimitReached.__init__" (defArgs i_LimitReached) (defBody i_LimitReached) (defScope i_LimitReached) .none kVI_LimitReached dcI_LimitReached pmI_LimitReached anI_LimitReached cdI_LimitReached ctI_LimitReached), cC_Table, cC_Memory, cC_Global, cC_Store, cC_Module, ce_Module_signatures, ce_Module_imports, ce_Module_functions, ce_Module_tables, ce_Module_memories, ce_Module_tags, ce_Module_variables, ce_Module_exports, ce_Module_table_segments, ce_Module_memory_segments⟩ : Cs)) := c_check_signature D_check_signature T 
  have C_host_functions : Cal l.prog w K mg base CX0 1 "host_functions" (sp_host_functions K (⟨cC_HostError, cC_ImportMissing, cI_ImportMissing, (PySem.W.fnOf "__init__" "ImportMissing.__init__" (defArgs i_ImportMissing) (defBody i_ImportMissing) (defScope i_ImportMissing) .none kVI_ImportMissing dcI_ImportMissing pmI_ImportMissing anI_ImportMissing cdI_ImportMissing ctI_ImportMissing), cC_ImportUnfit, cI_ImportUnfit, (PySem.W.fnOf "__init__" "ImportUnfit.__init__" (defArgs i_ImportUnfit) (defBody i_ImportUnfit) (defScope i_ImportUnfit) .none kVI_ImportUnfit dcI_ImportUnfit pmI_ImportUnfit anI_ImportUnfit cdI_ImportUnfit ctI_ImportUnfit), cC_LimitReached, cI_LimitReached, (PySem.W.fnOf "__init__" "LimitReached.__init__" (defArgs i_LimitReached) (defBody i_LimitReached) (defScope i_LimitReached) .none kVI_LimitReached dcI_LimitReached pmI_LimitReached anI_LimitReached cdI_LimitReached ctI_LimitReached), cC_Table, cC_Memory, cC_Global, cC_Store, cC_Module, ce_Module_signatures, ce_Module_imports, ce_Module_functions, ce_Module_tables, ce_Module_memories, ce_Module_tags, ce_Module_variables, ce_Module_exports, ce_Module_table_segments, ce_Module_memory_segments⟩ : Cs)) := c_host_functions D_host_functions T 
  have C_add_host : Cal l.prog w K mg base (L2.CX l.prog w) 4 "add_host" (sp_add_host K (⟨cC_HostError, cC_ImportMissing, cI_ImportMissing, (PySem.W.fnOf "__init__" "ImportMissing.__init__" (defArgs i_ImportMissing) (defBody i_ImportMissing) (defScope i_ImportMissing) .none kVI_ImportMissing dcI_ImportMissing pmI_ImportMissing anI_ImportMissing cdI_ImportMissing ctI_ImportMissing), cC_ImportUnfit, cI_ImportUnfit, (PySem.W.fnOf "__init__" "ImportUnfit.__init__" (defArgs i_ImportUnfit) (defBody i_ImportUnfit) (defScope i_ImportUnfit) .none kVI_ImportUnfit dcI_ImportUnfit pmI_ImportUnfit anI_ImportUnfit cdI_ImportUnfit ctI_ImportUnfit), cC_LimitReached, cI_LimitReached, (PySem.W.fnOf "__init__" "LimitReached.__init__" (defArgs i_LimitReached) (defBody i_LimitReached) (defScope i_LimitReached) .none kVI_LimitReached dcI_LimitReached pmI_LimitReached anI_LimitReached cdI_LimitReached ctI_LimitReached), cC_Table, cC_Memory, cC_Global, cC_Store, cC_Module, ce_Module_signatures, ce_Module_imports, ce_Module_functions, ce_Module_tables, ce_Module_memories, ce_Module_tags, ce_Module_variables, ce_Module_exports, ce_Module_table_segments, ce_Module_memory_segments⟩ : Cs)) := c_add_host D_add_host T C_check_signature C_host_functions
  have C_Table___init__ : CalI l.prog w K mg base CX0 (Cs.C_Table (⟨cC_HostError, cC_ImportMissing, cI_ImportMissing, (PySem.W.fnOf "__init__" "ImportMissing.__init__" (defArgs i_ImportMissing) (defBody i_ImportMissing) (defScope i_ImportMissing) .none kVI_ImportMissing dcI_ImportMissing pmI_ImportMissing anI_ImportMissing cdI_ImportMissing ctI_ImportMissing), cC_ImportUnfit, cI_ImportUnfit, (PySem.W.fnOf "__init__" "ImportUnfit.__init__" (defArgs i_ImportUnfit) (defBody i_ImportUnfit) (defScope i_ImportUnfit) .none kVI_ImportUnfit dcI_ImportUnfit pmI_ImportUnfit anI_ImportUnfit cdI_ImportUnfit ctI_ImportUnfit), cC_LimitReached, cI_LimitReached, (PySem.W.fnOf "__init__" "LimitReached.__init__" (defArgs i_LimitReached) (defBody i_LimitReached) (defScope i_LimitReached) .none kVI_LimitReached dcI_LimitReached pmI_LimitReached anI_LimitReached cdI_LimitReached ctI_LimitReached), cC_Table, cC_Memory, cC_Global, cC_Store, cC_Module, ce_Module_signatures, ce_Module_imports, ce_Module_functions, ce_Module_tables, ce_Module_memories, ce_Module_tags, ce_Module_variables, ce_Module_exports, ce_Module_table_segments, ce_Module_memory_segments⟩ : Cs)) 1 (sp_Table___init__ K (⟨cC_HostError, cC_ImportMissing, cI_ImportMissing, (PySem.W.fnOf "__init__" "ImportMissing.__init__" (defArgs i_ImportMissing) (defBody i_ImportMissing) (defScope i_ImportMissing) .none kVI_ImportMissing dcI_ImportMissing pmI_ImportMissing anI_ImportMissing cdI_ImportMissing ctI_ImportMissing), cC_ImportUnfit, cI_ImportUnfit, (PySem.W.fnOf "__init__" "ImportUnfit.__init__" (defArgs i_ImportUnfit) (defBody i_ImportUnfit) (defScope i_ImportUnfit) .none kVI_ImportUnfit dcI_ImportUnfit pmI_ImportUnfit anI_ImportUnfit cdI_ImportUnfit ctI_ImportUnfit), cC_LimitReached, cI_LimitReached, (PySem.W.fnOf "__init__" "LimitReached.__init__" (defArgs i_LimitReached) (defBody i_LimitReached) (defScope i_LimitReached) .none kVI_LimitReached dcI_LimitReached pmI_LimitReached anI_LimitReached cdI_LimitReached ctI_LimitReached), cC_Table, cC_Memory, cC_Global, cC_Store, cC_Module, ce_Module_signatures, ce_Module_imports, ce_Module_functions, ce_Module_tables, ce_Module_memories, ce_Module_tags, ce_Module_variables, ce_Module_exports, ce_Module_table_segments, ce_Module_memory_segments⟩ : Cs)) := c_Table___init__ D_Table___init__ T 
  have C_Memory___init__ : CalI l.prog w K mg base CX0 (Cs.C_Memory (⟨cC_HostError, cC_ImportMissing, cI_ImportMissing, (PySem.W.fnOf "__init__" "ImportMissing.__init__" (defArgs i_ImportMissing) (defBody i_ImportMissing) (defScope i_ImportMissing) .none kVI_ImportMissing dcI_ImportMissing pmI_ImportMissing anI_ImportMissing cdI_ImportMissing ctI_ImportMissing), cC_ImportUnfit, cI_ImportUnfit, (PySem.W.fnOf "__init__" "ImportUnfit.__init__" (defArgs i_ImportUnfit) (defBody i_ImportUnfit) (defScope i_ImportUnfit) .none kVI_ImportUnfit dcI_ImportUnfit pmI_ImportUnfit anI_ImportUnfit cdI_ImportUnfit ctI_ImportUnfit), cC_LimitReached, cI_LimitReached, (PySem.W.fnOf "__init__" "LimitReached.__init__" (defArgs i_LimitReached) (defBody i_LimitReached) (defScope i_LimitReached) .none kVI_LimitReached dcI_LimitReached pmI_LimitReached anI_LimitReached cdI_LimitReached ctI_LimitReached), cC_Table, cC_Memory, cC_Global, cC_Store, cC_Module, ce_Module_signatures, ce_Module_imports, ce_Module_functions, ce_Module_tables, ce_Module_memories, ce_Module_tags, ce_Module_variables, ce_Module_exports, ce_Module_table_segments, ce_Module_memory_segments⟩ : Cs)) 1 (sp_Memory___init__ K (⟨cC_HostError, cC_ImportMissing, cI_ImportMissing, (PySem.W.fnOf "__init__" "ImportMissing.__init__" (defArgs i_ImportMissing) (defBody i_ImportMissing) (defScope i_ImportMissing) .none kVI_ImportMissing dcI_ImportMissing pmI_ImportMissing anI_ImportMissing cdI_ImportMissing ctI_ImportMissing), cC_ImportUnfit, cI_ImportUnfit, (PySem.W.fnOf "__init__" "ImportUnfit.__init__" (defArgs i_ImportUnfit) (defBody i_ImportUnfit) (defScope i_ImportUnfit) .none kVI_ImportUnfit dcI_ImportUnfit pmI_ImportUnfit anI_ImportUnfit cdI_ImportUnfit ctI_ImportUnfit), cC_LimitReached, cI_LimitReached, (PySem.W.fnOf "__init__" "LimitReached.__init__" (defArgs i_LimitReached) (defBody i_LimitReached) (defScope i_LimitReached) .none kVI_LimitReached dcI_LimitReached pmI_LimitReached anI_LimitReached cdI_LimitReached ctI_LimitReached), cC_Table, cC_Memory, cC_Global, cC_Store, cC_Module, ce_Module_signatures, ce_Module_imports, ce_Module_functions, ce_Module_tables, ce_Module_memories, ce_Module_tags, ce_Module_variables, ce_Module_exports, ce_Module_table_segments, ce_Module_memory_segments⟩ : Cs)) := c_Memory___init__ D_Memory___init__ T 
  have C_Global___init__ : CalI l.prog w K mg base CX0 (Cs.C_Global (⟨cC_HostError, cC_ImportMissing, cI_ImportMissing, (PySem.W.fnOf "__init__" "ImportMissing.__init__" (defArgs i_ImportMissing) (defBody i_ImportMissing) (defScope i_ImportMissing) .none kVI_ImportMissing dcI_ImportMissing pmI_ImportMissing anI_ImportMissing cdI_ImportMissing ctI_ImportMissing), cC_ImportUnfit, cI_ImportUnfit, (PySem.W.fnOf "__init__" "ImportUnfit.__init__" (defArgs i_ImportUnfit) (defBody i_ImportUnfit) (defScope i_ImportUnfit) .none kVI_ImportUnfit dcI_ImportUnfit pmI_ImportUnfit anI_ImportUnfit cdI_ImportUnfit ctI_ImportUnfit), cC_LimitReached, cI_LimitReached, (PySem.W.fnOf "__init__" "LimitReached.__init__" (defArgs i_LimitReached) (defBody i_LimitReached) (defScope i_LimitReached) .none kVI_LimitReached dcI_LimitReached pmI_LimitReached anI_LimitReached cdI_LimitReached ctI_LimitReached), cC_Table, cC_Memory, cC_Global, cC_Store, cC_Module, ce_Module_signatures, ce_Module_imports, ce_Module_functions, ce_Module_tables, ce_Module_memories, ce_Module_tags, ce_Module_variables, ce_Module_exports, ce_Module_table_segments, ce_Module_memory_segments⟩ : Cs)) 1 (sp_Global___init__ K (⟨cC_HostError, cC_ImportMissing, cI_ImportMissing, (PySem.W.fnOf "__init__" "ImportMissing.__init__" (defArgs i_ImportMissing) (defBody i_ImportMissing) (defScope i_ImportMissing) .none kVI_ImportMissing dcI_ImportMissing pmI_ImportMissing anI_ImportMissing cdI_ImportMissing ctI_ImportMissing), cC_ImportUnfit, cI_ImportUnfit, (PySem.W.fnOf "__init__" "ImportUnfit.__init__" (defArgs i_ImportUnfit) (defBody i_ImportUnfit) (defScope i_ImportUnfit) .none kVI_ImportUnfit dcI_ImportUnfit pmI_ImportUnfit anI_ImportUnfit cdI_ImportUnfit ctI_ImportUnfit), cC_LimitReached, cI_LimitReached, (PySem.W.fnOf "__init__" "LimitReached.__init__" (defArgs i_LimitReached) (defBody i_LimitReached) (defScope i_LimitReached) .none kVI_LimitReached dcI_LimitReached pmI_LimitReached anI_LimitReached cdI_LimitReached ctI_LimitReached), cC_Table, cC_Memory, cC_Global, cC_Store, cC_Module, ce_Module_signatures, ce_Module_imports, ce_Module_functions, ce_Module_tables, ce_Module_memories, ce_Module_tags, ce_Module_variables, ce_Module_exports, ce_Module_table_segments, ce_Module_memory_segments⟩ : Cs)) := c_Global___init__ D_Global___init__ T 
  have C__law_store : Cal l.prog w K mg base CX0 5 "_law_store" (sp__law_store K (⟨cC_HostError, cC_ImportMissing, cI_ImportMissing, (PySem.W.fnOf "__init__" "ImportMissing.__init__" (defArgs i_ImportMissing) (defBody i_ImportMissing) (defScope i_ImportMissing) .none kVI_ImportMissing dcI_ImportMissing pmI_ImportMissing anI_ImportMissing cdI_ImportMissing ctI_ImportMissing), cC_ImportUnfit, cI_ImportUnfit, (PySem.W.fnOf "__init__" "ImportUnfit.__init__" (defArgs i_ImportUnfit) (defBody i_ImportUnfit) (defScope i_ImportUnfit) .none kVI_ImportUnfit dcI_ImportUnfit pmI_ImportUnfit anI_ImportUnfit cdI_ImportUnfit ctI_ImportUnfit), cC_LimitReached, cI_LimitReached, (PySem.W.fnOf "__init__" "LimitReached.__init__" (defArgs i_LimitReached) (defBody i_LimitReached) (defScope i_LimitReached) .none kVI_LimitReached dcI_LimitReached pmI_LimitReached anI_LimitReached cdI_LimitReached ctI_LimitReached), cC_Table, cC_Memory, cC_Global, cC_Store, cC_Module, ce_Module_signatures, ce_Module_imports, ce_Module_functions, ce_Module_tables, ce_Module_memories, ce_Module_tags, ce_Module_variables, ce_Module_exports, ce_Module_table_segments, ce_Module_memory_segments⟩ : Cs)) := c__law_store D__law_store T C_Store___init__ C_add_host C_Table___init__ C_Memory___init__ C_Global___init__
  have C__law_pair : Cal l.prog w K mg base CX0 2 "_law_pair" (sp__law_pair K (⟨cC_HostError, cC_ImportMissing, cI_ImportMissing, (PySem.W.fnOf "__init__" "ImportMissing.__init__" (defArgs i_ImportMissing) (defBody i_ImportMissing) (defScope i_ImportMissing) .none kVI_ImportMissing dcI_ImportMissing pmI_ImportMissing anI_ImportMissing cdI_ImportMissing ctI_ImportMissing), cC_ImportUnfit, cI_ImportUnfit, (PySem.W.fnOf "__init__" "ImportUnfit.__init__" (defArgs i_ImportUnfit) (defBody i_ImportUnfit) (defScope i_ImportUnfit) .none kVI_ImportUnfit dcI_ImportUnfit pmI_ImportUnfit anI_ImportUnfit cdI_ImportUnfit ctI_ImportUnfit), cC_LimitReached, cI_LimitReached, (PySem.W.fnOf "__init__" "LimitReached.__init__" (defArgs i_LimitReached) (defBody i_LimitReached) (defScope i_LimitReached) .none kVI_LimitReached dcI_LimitReached pmI_LimitReached anI_LimitReached cdI_LimitReached ctI_LimitReached), cC_Table, cC_Memory, cC_Global, cC_Store, cC_Module, ce_Module_signatures, ce_Module_imports, ce_Module_functions, ce_Module_tables, ce_Module_memories, ce_Module_tags, ce_Module_variables, ce_Module_exports, ce_Module_table_segments, ce_Module_memory_segments⟩ : Cs)) := c__law_pair D__law_pair T C__law_draw
  have C__law_what : Cal l.prog w K mg base CX0 2 "_law_what" (sp__law_what K (⟨cC_HostError, cC_ImportMissing, cI_ImportMissing, (PySem.W.fnOf "__init__" "ImportMissing.__init__" (defArgs i_ImportMissing) (defBody i_ImportMissing) (defScope i_ImportMissing) .none kVI_ImportMissing dcI_ImportMissing pmI_ImportMissing anI_ImportMissing cdI_ImportMissing ctI_ImportMissing), cC_ImportUnfit, cI_ImportUnfit, (PySem.W.fnOf "__init__" "ImportUnfit.__init__" (defArgs i_ImportUnfit) (defBody i_ImportUnfit) (defScope i_ImportUnfit) .none kVI_ImportUnfit dcI_ImportUnfit pmI_ImportUnfit anI_ImportUnfit cdI_ImportUnfit ctI_ImportUnfit), cC_LimitReached, cI_LimitReached, (PySem.W.fnOf "__init__" "LimitReached.__init__" (defArgs i_LimitReached) (defBody i_LimitReached) (defScope i_LimitReached) .none kVI_LimitReached dcI_LimitReached pmI_LimitReached anI_LimitReached cdI_LimitReached ctI_LimitReached), cC_Table, cC_Memory, cC_Global, cC_Store, cC_Module, ce_Module_signatures, ce_Module_imports, ce_Module_functions, ce_Module_tables, ce_Module_memories, ce_Module_tags, ce_Module_variables, ce_Module_exports, ce_Module_table_segments, ce_Module_memory_segments⟩ : Cs)) := c__law_what D__law_what T C__law_shapes C__law_draw
  have C__law_imports : Cal l.prog w K mg base CX0 3 "_law_imports" (sp__law_imports K (⟨cC_HostError, cC_ImportMissing, cI_ImportMissing, (PySem.W.fnOf "__init__" "ImportMissing.__init__" (defArgs i_ImportMissing) (defBody i_ImportMissing) (defScope i_ImportMissing) .none kVI_ImportMissing dcI_ImportMissing pmI_ImportMissing anI_ImportMissing cdI_ImportMissing ctI_ImportMissing), cC_ImportUnfit, cI_ImportUnfit, (PySem.W.fnOf "__init__" "ImportUnfit.__init__" (defArgs i_ImportUnfit) (defBody i_ImportUnfit) (defScope i_ImportUnfit) .none kVI_ImportUnfit dcI_ImportUnfit pmI_ImportUnfit anI_ImportUnfit cdI_ImportUnfit ctI_ImportUnfit), cC_LimitReached, cI_LimitReached, (PySem.W.fnOf "__init__" "LimitReached.__init__" (defArgs i_LimitReached) (defBody i_LimitReached) (defScope i_LimitReached) .none kVI_LimitReached dcI_LimitReached pmI_LimitReached anI_LimitReached cdI_LimitReached ctI_LimitReached), cC_Table, cC_Memory, cC_Global, cC_Store, cC_Module, ce_Module_signatures, ce_Module_imports, ce_Module_functions, ce_Module_tables, ce_Module_memories, ce_Module_tags, ce_Module_variables, ce_Module_exports, ce_Module_table_segments, ce_Module_memory_segments⟩ : Cs)) := c__law_imports D__law_imports T C__law_draw C__law_pair C__law_what
  have C_Module___init__ : CalK l.prog w K mg base CX0 (Cs.C_Module (⟨cC_HostError, cC_ImportMissing, cI_ImportMissing, (PySem.W.fnOf "__init__" "ImportMissing.__init__" (defArgs i_ImportMissing) (defBody i_ImportMissing) (defScope i_ImportMissing) .none kVI_ImportMissing dcI_ImportMissing pmI_ImportMissing anI_ImportMissing cdI_ImportMissing ctI_ImportMissing), cC_ImportUnfit, cI_ImportUnfit, (PySem.W.fnOf "__init__" "ImportUnfit.__init__" (defArgs i_ImportUnfit) (defBody i_ImportUnfit) (defScope i_ImportUnfit) .none kVI_ImportUnfit dcI_ImportUnfit pmI_ImportUnfit anI_ImportUnfit cdI_ImportUnfit ctI_ImportUnfit), cC_LimitReached, cI_LimitReached, (PySem.W.fnOf "__init__" "LimitReached.__init__" (defArgs i_LimitReached) (defBody i_LimitReached) (defScope i_LimitReached) .none kVI_LimitReached dcI_LimitReached pmI_LimitReached anI_LimitReached cdI_LimitReached ctI_LimitReached), cC_Table, cC_Memory, cC_Global, cC_Store, cC_Module, ce_Module_signatures, ce_Module_imports, ce_Module_functions, ce_Module_tables, ce_Module_memories, ce_Module_tags, ce_Module_variables, ce_Module_exports, ce_Module_table_segments, ce_Module_memory_segments⟩ : Cs)) 1 (sp_Module___init__ K (⟨cC_HostError, cC_ImportMissing, cI_ImportMissing, (PySem.W.fnOf "__init__" "ImportMissing.__init__" (defArgs i_ImportMissing) (defBody i_ImportMissing) (defScope i_ImportMissing) .none kVI_ImportMissing dcI_ImportMissing pmI_ImportMissing anI_ImportMissing cdI_ImportMissing ctI_ImportMissing), cC_ImportUnfit, cI_ImportUnfit, (PySem.W.fnOf "__init__" "ImportUnfit.__init__" (defArgs i_ImportUnfit) (defBody i_ImportUnfit) (defScope i_ImportUnfit) .none kVI_ImportUnfit dcI_ImportUnfit pmI_ImportUnfit anI_ImportUnfit cdI_ImportUnfit ctI_ImportUnfit), cC_LimitReached, cI_LimitReached, (PySem.W.fnOf "__init__" "LimitReached.__init__" (defArgs i_LimitReached) (defBody i_LimitReached) (defScope i_LimitReached) .none kVI_LimitReached dcI_LimitReached pmI_LimitReached anI_LimitReached cdI_LimitReached ctI_LimitReached), cC_Table, cC_Memory, cC_Global, cC_Store, cC_Module, ce_Module_signatures, ce_Module_imports, ce_Module_functions, ce_Module_tables, ce_Module_memories, ce_Module_tags, ce_Module_variables, ce_Module_exports, ce_Module_table_segments, ce_Module_memory_segments⟩ : Cs)) ["signatures", "imports"] (fun vs zs => vs ++ (zs ++ (ms_Module (⟨cC_HostError, cC_ImportMissing, cI_ImportMissing, (PySem.W.fnOf "__init__" "ImportMissing.__init__" (defArgs i_ImportMissing) (defBody i_ImportMissing) (defScope i_ImportMissing) .none kVI_ImportMissing dcI_ImportMissing pmI_ImportMissing anI_ImportMissing cdI_ImportMissing ctI_ImportMissing), cC_ImportUnfit, cI_ImportUnfit, (PySem.W.fnOf "__init__" "ImportUnfit.__init__" (defArgs i_ImportUnfit) (defBody i_ImportUnfit) (defScope i_ImportUnfit) .none kVI_ImportUnfit dcI_ImportUnfit pmI_ImportUnfit anI_ImportUnfit cdI_ImportUnfit ctI_ImportUnfit), cC_LimitReached, cI_LimitReached, (PySem.W.fnOf "__init__" "LimitReached.__init__" (defArgs i_LimitReached) (defBody i_LimitReached) (defScope i_LimitReached) .none kVI_LimitReached dcI_LimitReached pmI_LimitReached anI_LimitReached cdI_LimitReached ctI_LimitReached), cC_Table, cC_Memory, cC_Global, cC_Store, cC_Module, ce_Module_signatures, ce_Module_imports, ce_Module_functions, ce_Module_tables, ce_Module_memories, ce_Module_tags, ce_Module_variables, ce_Module_exports, ce_Module_table_segments, ce_Module_memory_segments⟩ : Cs)).map (·.2))) := c_Module___init__ D_Module___init__ T 
  have C_lookup : Cal l.prog w K mg base CX0 1 "lookup" (sp_lookup K (⟨cC_HostError, cC_ImportMissing, cI_ImportMissing, (PySem.W.fnOf "__init__" "ImportMissing.__init__" (defArgs i_ImportMissing) (defBody i_ImportMissing) (defScope i_ImportMissing) .none kVI_ImportMissing dcI_ImportMissing pmI_ImportMissing anI_ImportMissing cdI_ImportMissing ctI_ImportMissing), cC_ImportUnfit, cI_ImportUnfit, (PySem.W.fnOf "__init__" "ImportUnfit.__init__" (defArgs i_ImportUnfit) (defBody i_ImportUnfit) (defScope i_ImportUnfit) .none kVI_ImportUnfit dcI_ImportUnfit pmI_ImportUnfit anI_ImportUnfit cdI_ImportUnfit ctI_ImportUnfit), cC_LimitReached, cI_LimitReached, (PySem.W.fnOf "__init__" "LimitReached.__init__" (defArgs i_LimitReached) (defBody i_LimitReached) (defScope i_LimitReached) .none kVI_LimitReached dcI_LimitReached pmI_LimitReached anI_LimitReached cdI_LimitReached ctI_LimitReached), cC_Table, cC_Memory, cC_Global, cC_Store, cC_Module, ce_Module_signatures, ce_Module_imports, ce_Module_functions, ce_Module_tables, ce_Module_memories, ce_Module_tags, ce_Module_variables, ce_Module_exports, ce_Module_table_segments, ce_Module_memory_segments⟩ : Cs)) := c_lookup D_lookup T 
  have C_size_fits : Cal l.prog w K mg base CX0 1 "size_fits" (sp_size_fits K (⟨cC_HostError, cC_ImportMissing, cI_ImportMissing, (PySem.W.fnOf "__init__" "ImportMissing.__init__" (defArgs i_ImportMissing) (defBody i_ImportMissing) (defScope i_ImportMissing) .none kVI_ImportMissing dcI_ImportMissing pmI_ImportMissing anI_ImportMissing cdI_ImportMissing ctI_ImportMissing), cC_ImportUnfit, cI_ImportUnfit, (PySem.W.fnOf "__init__" "ImportUnfit.__init__" (defArgs i_ImportUnfit) (defBody i_ImportUnfit) (defScope i_ImportUnfit) .none kVI_ImportUnfit dcI_ImportUnfit pmI_ImportUnfit anI_ImportUnfit cdI_ImportUnfit ctI_ImportUnfit), cC_LimitReached, cI_LimitReached, (PySem.W.fnOf "__init__" "LimitReached.__init__" (defArgs i_LimitReached) (defBody i_LimitReached) (defScope i_LimitReached) .none kVI_LimitReached dcI_LimitReached pmI_LimitReached anI_LimitReached cdI_LimitReached ctI_LimitReached), cC_Table, cC_Memory, cC_Global, cC_Store, cC_Module, ce_Module_signatures, ce_Module_imports, ce_Module_functions, ce_Module_tables, ce_Module_memories, ce_Module_tags, ce_Module_variables, ce_Module_exports, ce_Module_table_segments, ce_Module_memory_segments⟩ : Cs)) := c_size_fits D_size_fits T 
  have C_items_of : Cal l.prog w K mg base CX0 1 "items_of" (sp_items_of K (⟨cC_HostError, cC_ImportMissing, cI_ImportMissing, (PySem.W.fnOf "__init__" "ImportMissing.__init__" (defArgs i_ImportMissing) (defBody i_ImportMissing) (defScope i_ImportMissing) .none kVI_ImportMissing dcI_ImportMissing pmI_ImportMissing anI_ImportMissing cdI_ImportMissing ctI_ImportMissing), cC_ImportUnfit, cI_ImportUnfit, (PySem.W.fnOf "__init__" "ImportUnfit.__init__" (defArgs i_ImportUnfit) (defBody i_ImportUnfit) (defScope i_ImportUnfit) .none kVI_ImportUnfit dcI_ImportUnfit pmI_ImportUnfit anI_ImportUnfit cdI_ImportUnfit ctI_ImportUnfit), cC_LimitReached, cI_LimitReached, (PySem.W.fnOf "__init__" "LimitReached.__init__" (defArgs i_LimitReached) (defBody i_LimitReached) (defScope i_LimitReached) .none kVI_LimitReached dcI_LimitReached pmI_LimitReached anI_LimitReached cdI_LimitReached ctI_LimitReached), cC_Table, cC_Memory, cC_Global, cC_Store, cC_Module, ce_Module_signatures, ce_Module_imports, ce_Module_functions, ce_Module_tables, ce_Module_memories, ce_Module_tags, ce_Module_variables, ce_Module_exports, ce_Module_table_segments, ce_Module_memory_segments⟩ : Cs)) := c_items_of D_items_of T 
  have C_item_fits : Cal l.prog w K mg base CX0 2 "item_fits" (sp_item_fits K (⟨cC_HostError, cC_ImportMissing, cI_ImportMissing, (PySem.W.fnOf "__init__" "ImportMissing.__init__" (defArgs i_ImportMissing) (defBody i_ImportMissing) (defScope i_ImportMissing) .none kVI_ImportMissing dcI_ImportMissing pmI_ImportMissing anI_ImportMissing cdI_ImportMissing ctI_ImportMissing), cC_ImportUnfit, cI_ImportUnfit, (PySem.W.fnOf "__init__" "ImportUnfit.__init__" (defArgs i_ImportUnfit) (defBody i_ImportUnfit) (defScope i_ImportUnfit) .none kVI_ImportUnfit dcI_ImportUnfit pmI_ImportUnfit anI_ImportUnfit cdI_ImportUnfit ctI_ImportUnfit), cC_LimitReached, cI_LimitReached, (PySem.W.fnOf "__init__" "LimitReached.__init__" (defArgs i_LimitReached) (defBody i_LimitReached) (defScope i_LimitReached) .none kVI_LimitReached dcI_LimitReached pmI_LimitReached anI_LimitReached cdI_LimitReached ctI_LimitReached), cC_Table, cC_Memory, cC_Global, cC_Store, cC_Module, ce_Module_signatures, ce_Module_imports, ce_Module_functions, ce_Module_tables, ce_Module_memories, ce_Module_tags, ce_Module_variables, ce_Module_exports, ce_Module_table_segments, ce_Module_memory_segments⟩ : Cs)) := c_item_fits D_item_fits T C_size_fits C_items_of
  have C_resolve : Cal l.prog w K mg base (L2.CX l.prog w) 3 "resolve" (sp_resolve K (⟨cC_HostError, cC_ImportMissing, cI_ImportMissing, (PySem.W.fnOf "__init__" "ImportMissing.__init__" (defArgs i_ImportMissing) (defBody i_ImportMissing) (defScope i_ImportMissing) .none kVI_ImportMissing dcI_ImportMissing pmI_ImportMissing anI_ImportMissing cdI_ImportMissing ctI_ImportMissing), cC_ImportUnfit, cI_ImportUnfit, (PySem.W.fnOf "__init__" "ImportUnfit.__init__" (defArgs i_ImportUnfit) (defBody i_ImportUnfit) (defScope i_ImportUnfit) .none kVI_ImportUnfit dcI_ImportUnfit pmI_ImportUnfit anI_ImportUnfit cdI_ImportUnfit ctI_ImportUnfit), cC_LimitReached, cI_LimitReached, (PySem.W.fnOf "__init__" "LimitReached.__init__" (defArgs i_LimitReached) (defBody i_LimitReached) (defScope i_LimitReached) .none kVI_LimitReached dcI_LimitReached pmI_LimitReached anI_LimitReached cdI_LimitReached ctI_LimitReached), cC_Table, cC_Memory, cC_Global, cC_Store, cC_Module, ce_Module_signatures, ce_Module_imports, ce_Module_functions, ce_Module_tables, ce_Module_memories, ce_Module_tags, ce_Module_variables, ce_Module_exports, ce_Module_table_segments, ce_Module_memory_segments⟩ : Cs)) := c_resolve D_resolve T C_lookup C_item_fits
  have C__law_answer : Cal l.prog w K mg base CX0 4 "_law_answer" (sp__law_answer K (⟨cC_HostError, cC_ImportMissing, cI_ImportMissing, (PySem.W.fnOf "__init__" "ImportMissing.__init__" (defArgs i_ImportMissing) (defBody i_ImportMissing) (defScope i_ImportMissing) .none kVI_ImportMissing dcI_ImportMissing pmI_ImportMissing anI_ImportMissing cdI_ImportMissing ctI_ImportMissing), cC_ImportUnfit, cI_ImportUnfit, (PySem.W.fnOf "__init__" "ImportUnfit.__init__" (defArgs i_ImportUnfit) (defBody i_ImportUnfit) (defScope i_ImportUnfit) .none kVI_ImportUnfit dcI_ImportUnfit pmI_ImportUnfit anI_ImportUnfit cdI_ImportUnfit ctI_ImportUnfit), cC_LimitReached, cI_LimitReached, (PySem.W.fnOf "__init__" "LimitReached.__init__" (defArgs i_LimitReached) (defBody i_LimitReached) (defScope i_LimitReached) .none kVI_LimitReached dcI_LimitReached pmI_LimitReached anI_LimitReached cdI_LimitReached ctI_LimitReached), cC_Table, cC_Memory, cC_Global, cC_Store, cC_Module, ce_Module_signatures, ce_Module_imports, ce_Module_functions, ce_Module_tables, ce_Module_memories, ce_Module_tags, ce_Module_variables, ce_Module_exports, ce_Module_table_segments, ce_Module_memory_segments⟩ : Cs)) := c__law_answer D__law_answer T C_resolve
  have C__law_fits : Cal l.prog w K mg base CX0 2 "_law_fits" (sp__law_fits K (⟨cC_HostError, cC_ImportMissing, cI_ImportMissing, (PySem.W.fnOf "__init__" "ImportMissing.__init__" (defArgs i_ImportMissing) (defBody i_ImportMissing) (defScope i_ImportMissing) .none kVI_ImportMissing dcI_ImportMissing pmI_ImportMissing anI_ImportMissing cdI_ImportMissing ctI_ImportMissing), cC_ImportUnfit, cI_ImportUnfit, (PySem.W.fnOf "__init__" "ImportUnfit.__init__" (defArgs i_ImportUnfit) (defBody i_ImportUnfit) (defScope i_ImportUnfit) .none kVI_ImportUnfit dcI_ImportUnfit pmI_ImportUnfit anI_ImportUnfit cdI_ImportUnfit ctI_ImportUnfit), cC_LimitReached, cI_LimitReached, (PySem.W.fnOf "__init__" "LimitReached.__init__" (defArgs i_LimitReached) (defBody i_LimitReached) (defScope i_LimitReached) .none kVI_LimitReached dcI_LimitReached pmI_LimitReached anI_LimitReached cdI_LimitReached ctI_LimitReached), cC_Table, cC_Memory, cC_Global, cC_Store, cC_Module, ce_Module_signatures, ce_Module_imports, ce_Module_functions, ce_Module_tables, ce_Module_memories, ce_Module_tags, ce_Module_variables, ce_Module_exports, ce_Module_table_segments, ce_Module_memory_segments⟩ : Cs)) := c__law_fits D__law_fits T C__law_shapes
  have C__law_due : Cal l.prog w K mg base CX0 3 "_law_due" (sp__law_due K (⟨cC_HostError, cC_ImportMissing, cI_ImportMissing, (PySem.W.fnOf "__init__" "ImportMissing.__init__" (defArgs i_ImportMissing) (defBody i_ImportMissing) (defScope i_ImportMissing) .none kVI_ImportMissing dcI_ImportMissing pmI_ImportMissing anI_ImportMissing cdI_ImportMissing ctI_ImportMissing), cC_ImportUnfit, cI_ImportUnfit, (PySem.W.fnOf "__init__" "ImportUnfit.__init__" (defArgs i_ImportUnfit) (defBody i_ImportUnfit) (defScope i_ImportUnfit) .none kVI_ImportUnfit dcI_ImportUnfit pmI_ImportUnfit anI_ImportUnfit cdI_ImportUnfit ctI_ImportUnfit), cC_LimitReached, cI_LimitReached, (PySem.W.fnOf "__init__" "LimitReached.__init__" (defArgs i_LimitReached) (defBody i_LimitReached) (defScope i_LimitReached) .none kVI_LimitReached dcI_LimitReached pmI_LimitReached anI_LimitReached cdI_LimitReached ctI_LimitReached), cC_Table, cC_Memory, cC_Global, cC_Store, cC_Module, ce_Module_signatures, ce_Module_imports, ce_Module_functions, ce_Module_tables, ce_Module_memories, ce_Module_tags, ce_Module_variables, ce_Module_exports, ce_Module_table_segments, ce_Module_memory_segments⟩ : Cs)) := c__law_due D__law_due T C__law_fits
  have C__law_is_int : Cal l.prog w K mg base CX0 1 "_law_is_int" (sp__law_is_int K (⟨cC_HostError, cC_ImportMissing, cI_ImportMissing, (PySem.W.fnOf "__init__" "ImportMissing.__init__" (defArgs i_ImportMissing) (defBody i_ImportMissing) (defScope i_ImportMissing) .none kVI_ImportMissing dcI_ImportMissing pmI_ImportMissing anI_ImportMissing cdI_ImportMissing ctI_ImportMissing), cC_ImportUnfit, cI_ImportUnfit, (PySem.W.fnOf "__init__" "ImportUnfit.__init__" (defArgs i_ImportUnfit) (defBody i_ImportUnfit) (defScope i_ImportUnfit) .none kVI_ImportUnfit dcI_ImportUnfit pmI_ImportUnfit anI_ImportUnfit cdI_ImportUnfit ctI_ImportUnfit), cC_LimitReached, cI_LimitReached, (PySem.W.fnOf "__init__" "LimitReached.__init__" (defArgs i_LimitReached) (defBody i_LimitReached) (defScope i_LimitReached) .none kVI_LimitReached dcI_LimitReached pmI_LimitReached anI_LimitReached cdI_LimitReached ctI_LimitReached), cC_Table, cC_Memory, cC_Global, cC_Store, cC_Module, ce_Module_signatures, ce_Module_imports, ce_Module_functions, ce_Module_tables, ce_Module_memories, ce_Module_tags, ce_Module_variables, ce_Module_exports, ce_Module_table_segments, ce_Module_memory_segments⟩ : Cs)) := c__law_is_int D__law_is_int T 
  exact c_law F20 T C__law_tape C__law_items C__law_store C__law_imports C_Module___init__ C__law_answer C__law_due C__law_draw C__law_pair C__law_shapes C__law_is_int
theorem walk {l : PySem.W.OpenLaw} {q : Program} {loose : List Str} {XP : (Str → Option Value) → Heap → Prop} {YP : World → Heap → Prop} {d : DefRec} {K : Params → PySem.W.Frag} (hn : l.most = some 63) (hdf : d.params.defaults = [])
    (hY : ∀ (w : World) (h : Heap), YP w h → (K w.params).In h)
    (F : ∀ (w : World) (mg : Str → Option Value) (fa : Addr) (h : Heap), (K w.params).In h → h.Ns mainGlobals mg → mg d.name = some (.ref fa) →
      ∃ fd : FuncData, (∀ (s : Shared) (u : Value), BindsTo s fd ⟨[u], []⟩ [("script", u)]) ∧ ∀ base : Heap, (K w.params).In base → base.Ns mainGlobals mg → FnOk l.prog w (K w.params) mg base CX0 6 fa fd ["script"] (sp_lawK (K w.params))) :
    PySem.W.WalkO q loose XP YP l.row.toRowW d [] (fun f vs => PySem.call f vs) :=
  L2.walk_of (n := 63) (k := 6) (x := "script") (CX := fun _ => CX0) (sp := fun w => sp_lawK (K w.params)) hn (by decide) hdf ⟨rfl, by decide, by decide⟩ hY F (fun _ _ a ns hl _ hS => ⟨a, ns, rfl, hS, hl, fun _ => rfl⟩) fun _ _ _ _ _ z => z
end V
open PySem PySem.W PyProof.Rows
set_option maxRecDepth 100000 in
set_option maxHeartbeats 0 in
theorem PySem.Challenge.cw_wasmhost_k44_resolve_tells_the_first_fau_holds : PySem.Challenge.rw_wasmhost_k44_resolve_tells_the_first_fau.Holds := by
  w_on; o_law; k_head; (case hw => w_witness2)
  k_fill
  refine V.walk (l := PySem.Challenge.rw_wasmhost_k44_resolve_tells_the_first_fau) rfl rfl (fun w h Y => PySem.W.kIn_of Y) ?F
  case F =>
    intro w mg fa h KX G hmg
    refine' V.all_mk KX G hmg ?a0 ?l0 ?c0 ?k0 ?a1 ?l1 ?c1 ?k1 ?a2 ?l2 ?c2 ?k2 ?a3 ?l3 ?c3 ?k3 ?a4 ?l4 ?c4 ?k4 ?a5 ?l5 ?c5 ?k5 ?a6 ?l6 ?c6 ?k6 ?a7 ?l7 ?c7 ?k7 ?a8 ?l8 ?c8 ?k8 ?a9 ?l9 ?c9 ?k9 ?a10 ?l10 ?c10 ?k10 ?a11 ?l11 ?c11 ?k11 ?a12 ?l12 ?c12 ?k12 ?a13 ?l13 ?c13 ?k13 ?a14 ?l14 ?c14 ?k14 ?a15 ?l15 ?c15 ?k15 ?a16 ?l16 ?c16 ?k16 ?a17 ?l17 ?c17 ?k17 ?a18 ?l18 ?c18 ?k18 ?a19 ?l19 ?c19 ?k19 ?a20 ?l20 ?c20 ?k20 ?z_bool ?z_enumerate ?z_int ?z_isinstance ?z_len ?z_list ?z_max ?z_range ?z_tuple ?sp0 ?tk0 ?aC_HostError ?aC_ImportMissing ?aC_ImportUnfit ?aC_LimitReached ?ex_HostError ?ty_HostError ?hd_HostError ?ex_ImportMissing ?ty_ImportMissing ?hd_ImportMissing ?ex_ImportUnfit ?ty_ImportUnfit ?hd_ImportUnfit ?ex_LimitReached ?ty_LimitReached ?hd_LimitReached ?xl_ImportMissing ?sa_ImportMissing ?ga_ImportMissing ?gg_ImportMissing ?ca_ImportMissing ?kp_ImportMissing ?mr_ImportMissing ?aI_ImportMissing ?tI_ImportMissing ?lI_ImportMissing ?cdo_ImportMissing ?kI_ImportMissing ?no_ImportMissing_index ?sub_ImportMissing_HostError ?ne_ImportMissing_HostError ?sub_ImportMissing_ImportMissing ?sub_ImportMissing_ImportUnfit ?ne_ImportMissing_ImportUnfit ?sub_ImportMissing_LimitReached ?ne_ImportMissing_LimitReached ?sub_ImportMissing_VE ?xl_ImportUnfit ?sa_ImportUnfit ?ga_ImportUnfit ?gg_ImportUnfit ?ca_ImportUnfit ?kp_ImportUnfit ?mr_ImportUnfit ?aI_ImportUnfit ?tI_ImportUnfit ?lI_ImportUnfit ?cdo_ImportUnfit ?kI_ImportUnfit ?no_ImportUnfit_index ?sub_ImportUnfit_HostError ?ne_ImportUnfit_HostError ?sub_ImportUnfit_ImportMissing ?ne_ImportUnfit_ImportMissing ?sub_ImportUnfit_ImportUnfit ?sub_ImportUnfit_LimitReached ?ne_ImportUnfit_LimitReached ?sub_ImportUnfit_VE ?xl_LimitReached ?sa_LimitReached ?ga_LimitReached ?gg_LimitReached ?ca_LimitReached ?kp_LimitReached ?mr_LimitReached ?aI_LimitReached ?tI_LimitReached ?lI_LimitReached ?cdo_LimitReached ?kI_LimitReached ?no_LimitReached_what ?sub_LimitReached_HostError ?ne_LimitReached_HostError ?sub_LimitReached_ImportMissing ?ne_LimitReached_ImportMissing ?sub_LimitReached_ImportUnfit ?ne_LimitReached_ImportUnfit ?sub_LimitReached_LimitReached ?sub_LimitReached_VE ?aC_Table ?aC_Memory ?aC_Global ?aC_Store ?aC_Module ?ai_MOST_KINDS ?ai_MOST_HOSTS ?pg_Table ?hd_Table ?po_Table ?sa_Table ?mk_Table ?kc_Table ?na_Table_entries ?na_Table_most ?am21 ?im21 ?l21 ?c21 ?k21 ?pg_Memory ?hd_Memory ?po_Memory ?sa_Memory ?mk_Memory ?kc_Memory ?na_Memory_pages ?na_Memory_most ?na_Memory_cells ?am22 ?im22 ?l22 ?c22 ?k22 ?pg_Global ?hd_Global ?po_Global ?sa_Global ?mk_Global ?kc_Global ?na_Global_kind ?na_Global_mutable ?na_Global_value ?am23 ?im23 ?l23 ?c23 ?k23 ?pg_Store ?hd_Store ?po_Store ?sa_Store ?mk_Store ?kc_Store ?na_Store_functions ?na_Store_tables ?na_Store_memories ?na_Store_variables ?na_Store_tags ?na_Store_instances ?am24 ?im24 ?l24 ?c24 ?k24 ?pg_Module ?hd_Module ?po_Module ?sa_Module ?mk_Module ?kc_Module ?na_Module_signatures ?na_Module_imports ?na_Module_functions ?na_Module_tables ?na_Module_memories ?na_Module_tags ?na_Module_variables ?na_Module_exports ?na_Module_start ?na_Module_table_segments ?na_Module_memory_segments ?am25 ?im25 ?l25 ?c25 ?k25 ?kq_Module_signatures ?le_Module_signatures ?ze_Module_signatures ?ve_Module_signatures ?kq_Module_imports ?le_Module_imports ?ze_Module_imports ?ve_Module_imports ?kq_Module_functions ?le_Module_functions ?ze_Module_functions ?ve_Module_functions ?kq_Module_tables ?le_Module_tables ?ze_Module_tables ?ve_Module_tables ?kq_Module_memories ?le_Module_memories ?ze_Module_memories ?ve_Module_memories ?kq_Module_tags ?le_Module_tags ?ze_Module_tags ?ve_Module_tags ?kq_Module_variables ?le_Module_variables ?ze_Module_variables ?ve_Module_variables ?kq_Module_exports ?le_Module_exports ?ze_Module_exports ?ve_Module_exports ?kq_Module_start ?kq_Module_table_segments ?le_Module_table_segments ?ze_Module_table_segments ?ve_Module_table_segments ?kq_Module_memory_segments ?le_Module_memory_segments ?ze_Module_memory_segments ?ve_Module_memory_segments
    (case a0 => k_is)
    (case l0 => k_is)
    (case c0 => k_is)
    (case k0 => k_is)
    (case a1 => k_is)
    (case l1 => k_is)
    (case c1 => k_is)
    (case k1 => k_is)
    (case a2 => k_is)
    (case l2 => k_is)
    (case c2 => k_is)
    (case k2 => k_is)
    (case a3 => k_is)
    (case l3 => k_is)
    (case c3 => k_is)
    (case k3 => k_is)
    (case a4 => k_is)
    (case l4 => k_is)
    (case c4 => k_is)
    (case k4 => k_is)
    (case a5 => k_is)
    (case l5 => k_is)
    (case c5 => k_is)
    (case k5 => k_is)
    (case a6 => k_is)
    (case l6 => k_is)
    (case c6 => k_is)
    (case k6 => k_is)
    (case a7 => k_is)
    (case l7 => k_is)
    (case c7 => k_is)
    (case k7 => k_is)
    (case a8 => k_is)
    (case l8 => k_is)
    (case c8 => k_is)
    (case k8 => k_is)
    (case a9 => k_is)
    (case l9 => k_is)
    (case c9 => k_is)
    (case k9 => k_is)
    (case a10 => k_is)
    (case l10 => k_is)
    (case c10 => k_is)
    (case k10 => k_is)
    (case a11 => k_is)
    (case l11 => k_is)
    (case c11 => k_is)
    (case k11 => k_is)
    (case a12 => k_is)
    (case l12 => k_is)
    (case c12 => k_is)
    (case k12 => k_is)
    (case a13 => k_is)
    (case l13 => k_is)
    (case c13 => k_is)
    (case k13 => k_is)
    (case a14 => k_is)
    (case l14 => k_is)
    (case c14 => k_is)
    (case k14 => k_is)
    (case a15 => k_is)
    (case l15 => k_is)
    (case c15 => k_is)
    (case k15 => k_is)
    (case a16 => k_is)
    (case l16 => k_is)
    (case c16 => k_is)
    (case k16 => k_is)
    (case a17 => k_is)
    (case l17 => k_is)
    (case c17 => k_is)
    (case k17 => k_is)
    (case a18 => k_is)
    (case l18 => k_is)
    (case c18 => k_is)
    (case k18 => k_is)
    (case a19 => k_is)
    (case l19 => k_is)
    (case c19 => k_is)
    (case k19 => k_is)
    (case a20 => k_is)
    (case l20 => k_is)
    (case c20 => k_is)
    (case k20 => k_is)
    (case z_bool => k_is)
    (case z_enumerate => k_is)
    (case z_int => k_is)
    (case z_isinstance => k_is)
    (case z_len => k_is)
    (case z_list => k_is)
    (case z_max => k_is)
    (case z_range => k_is)
    (case z_tuple => k_is)
    (case sp0 => k_is)
    (case tk0 => k_is)
    (case aC_HostError => k_is)
    (case aC_ImportMissing => k_is)
    (case aC_ImportUnfit => k_is)
    (case aC_LimitReached => k_is)
    (case ex_HostError => k_is)
    (case ty_HostError => k_is)
    (case hd_HostError => k_is)
    (case ex_ImportMissing => k_is)
    (case ty_ImportMissing => k_is)
    (case hd_ImportMissing => k_is)
    (case ex_ImportUnfit => k_is)
    (case ty_ImportUnfit => k_is)
    (case hd_ImportUnfit => k_is)
    (case ex_LimitReached => k_is)
    (case ty_LimitReached => k_is)
    (case hd_LimitReached => k_is)
    (case xl_ImportMissing => k_is)
    (case sa_ImportMissing => k_is)
    (case ga_ImportMissing => k_is)
    (case gg_ImportMissing => k_is)
    (case ca_ImportMissing => k_is)
    (case kp_ImportMissing => k_is)
    (case mr_ImportMissing => k_is)
    (case aI_ImportMissing => k_is)
    (case tI_ImportMissing => k_is)
    (case lI_ImportMissing => k_is)
    (case cdo_ImportMissing => k_is)
    (case kI_ImportMissing => k_is)
    (case no_ImportMissing_index => k_is)
    (case sub_ImportMissing_HostError => first | rfl | k_is)
    (case ne_ImportMissing_HostError => decide)
    (case sub_ImportMissing_ImportMissing => first | rfl | k_is)
    (case sub_ImportMissing_ImportUnfit => first | rfl | k_is)
    (case ne_ImportMissing_ImportUnfit => decide)
    (case sub_ImportMissing_LimitReached => first | rfl | k_is)
    (case ne_ImportMissing_LimitReached => decide)
    (case sub_ImportMissing_VE => first | rfl | k_is)
    (case xl_ImportUnfit => k_is)
    (case sa_ImportUnfit => k_is)
    (case ga_ImportUnfit => k_is)
    (case gg_ImportUnfit => k_is)
    (case ca_ImportUnfit => k_is)
    (case kp_ImportUnfit => k_is)
    (case mr_ImportUnfit => k_is)
    (case aI_ImportUnfit => k_is)
    (case tI_ImportUnfit => k_is)
    (case lI_ImportUnfit => k_is)
    (case cdo_ImportUnfit => k_is)
    (case kI_ImportUnfit => k_is)
    (case no_ImportUnfit_index => k_is)
    (case sub_ImportUnfit_HostError => first | rfl | k_is)
    (case ne_ImportUnfit_HostError => decide)
    (case sub_ImportUnfit_ImportMissing => first | rfl | k_is)
    (case ne_ImportUnfit_ImportMissing => decide)
    (case sub_ImportUnfit_ImportUnfit => first | rfl | k_is)
    (case sub_ImportUnfit_LimitReached => first | rfl | k_is)
    (case ne_ImportUnfit_LimitReached => decide)
    (case sub_ImportUnfit_VE => first | rfl | k_is)
    (case xl_LimitReached => k_is)
    (case sa_LimitReached => k_is)
    (case ga_LimitReached => k_is)
    (case gg_LimitReached => k_is)
    (case ca_LimitReached => k_is)
    (case kp_LimitReached => k_is)
    (case mr_LimitReached => k_is)
    (case aI_LimitReached => k_is)
    (case tI_LimitReached => k_is)
    (case lI_LimitReached => k_is)
    (case cdo_LimitReached => k_is)
    (case kI_LimitReached => k_is)
    (case no_LimitReached_what => k_is)
    (case sub_LimitReached_HostError => first | rfl | k_is)
    (case ne_LimitReached_HostError => decide)
    (case sub_LimitReached_ImportMissing => first | rfl | k_is)
    (case ne_LimitReached_ImportMissing => decide)
    (case sub_LimitReached_ImportUnfit => first | rfl | k_is)
    (case ne_LimitReached_ImportUnfit => decide)
    (case sub_LimitReached_LimitReached => first | rfl | k_is)
    (case sub_LimitReached_VE => first | rfl | k_is)
    (case aC_Table => k_is)
    (case aC_Memory => k_is)
    (case aC_Global => k_is)
    (case aC_Store => k_is)
    (case aC_Module => k_is)
    (case ai_MOST_KINDS => k_is)
    (case ai_MOST_HOSTS => k_is)
    (case pg_Table => k_is)
    (case hd_Table => k_is)
    (case po_Table => k_is)
    (case sa_Table => k_is)
    (case mk_Table => k_is)
    (case kc_Table => k_is)
    (case na_Table_entries => k_is)
    (case na_Table_most => k_is)
    (case am21 => k_is)
    (case im21 => k_is)
    (case l21 => k_is)
    (case c21 => k_is)
    (case k21 => k_is)
    (case pg_Memory => k_is)
    (case hd_Memory => k_is)
    (case po_Memory => k_is)
    (case sa_Memory => k_is)
    (case mk_Memory => k_is)
    (case kc_Memory => k_is)
    (case na_Memory_pages => k_is)
    (case na_Memory_most => k_is)
    (case na_Memory_cells => k_is)
    (case am22 => k_is)
    (case im22 => k_is)
    (case l22 => k_is)
    (case c22 => k_is)
    (case k22 => k_is)
    (case pg_Global => k_is)
    (case hd_Global => k_is)
    (case po_Global => k_is)
    (case sa_Global => k_is)
    (case mk_Global => k_is)
    (case kc_Global => k_is)
    (case na_Global_kind => k_is)
    (case na_Global_mutable => k_is)
    (case na_Global_value => k_is)
    (case am23 => k_is)
    (case im23 => k_is)
    (case l23 => k_is)
    (case c23 => k_is)
    (case k23 => k_is)
    (case pg_Store => k_is)
    (case hd_Store => k_is)
    (case po_Store => k_is)
    (case sa_Store => k_is)
    (case mk_Store => k_is)
    (case kc_Store => k_is)
    (case na_Store_functions => k_is)
    (case na_Store_tables => k_is)
    (case na_Store_memories => k_is)
    (case na_Store_variables => k_is)
    (case na_Store_tags => k_is)
    (case na_Store_instances => k_is)
    (case am24 => k_is)
    (case im24 => k_is)
    (case l24 => k_is)
    (case c24 => k_is)
    (case k24 => k_is)
    (case pg_Module => k_is)
    (case hd_Module => k_is)
    (case po_Module => k_is)
    (case sa_Module => k_is)
    (case mk_Module => k_is)
    (case kc_Module => k_is)
    (case na_Module_signatures => k_is)
    (case na_Module_imports => k_is)
    (case na_Module_functions => k_is)
    (case na_Module_tables => k_is)
    (case na_Module_memories => k_is)
    (case na_Module_tags => k_is)
    (case na_Module_variables => k_is)
    (case na_Module_exports => k_is)
    (case na_Module_start => k_is)
    (case na_Module_table_segments => k_is)
    (case na_Module_memory_segments => k_is)
    (case am25 => k_is)
    (case im25 => k_is)
    (case l25 => k_is)
    (case c25 => k_is)
    (case k25 => k_is)
    (case kq_Module_signatures => k_is)
    (case le_Module_signatures => k_is)
    (case ze_Module_signatures => decide)
    (case ve_Module_signatures => exact .nil)
    (case kq_Module_imports => k_is)
    (case le_Module_imports => k_is)
    (case ze_Module_imports => decide)
    (case ve_Module_imports => exact .nil)
    (case kq_Module_functions => k_is)
    (case le_Module_functions => k_is)
    (case ze_Module_functions => decide)
    (case ve_Module_functions => exact .nil)
    (case kq_Module_tables => k_is)
    (case le_Module_tables => k_is)
    (case ze_Module_tables => decide)
    (case ve_Module_tables => exact .nil)
    (case kq_Module_memories => k_is)
    (case le_Module_memories => k_is)
    (case ze_Module_memories => decide)
    (case ve_Module_memories => exact .nil)
    (case kq_Module_tags => k_is)
    (case le_Module_tags => k_is)
    (case ze_Module_tags => decide)
    (case ve_Module_tags => exact .nil)
    (case kq_Module_variables => k_is)
    (case le_Module_variables => k_is)
    (case ze_Module_variables => decide)
    (case ve_Module_variables => exact .nil)
    (case kq_Module_exports => k_is)
    (case le_Module_exports => k_is)
    (case ze_Module_exports => decide)
    (case ve_Module_exports => exact .nil)
    (case kq_Module_start => k_is)
    (case kq_Module_table_segments => k_is)
    (case le_Module_table_segments => k_is)
    (case ze_Module_table_segments => decide)
    (case ve_Module_table_segments => exact .nil)
    (case kq_Module_memory_segments => k_is)
    (case le_Module_memory_segments => k_is)
    (case ze_Module_memory_segments => decide)
    (case ve_Module_memory_segments => exact .nil)
#print axioms PySem.Challenge.cw_wasmhost_k44_resolve_tells_the_first_fau_holds


