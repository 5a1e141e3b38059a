import Derived.Test.YtmfapopclbnlpaaGreatDoorProg
import Derived.ProofKit
import Derived.Test.YtmfapopclbnlpaaGreatDoorDt6
import Derived.Test.YtmfapopclbnlpaaGreatDoorDt25
import Derived.Test.YtmfapopclbnlpaaGreatDoorDt27
set_option linter.unusedVariables false
set_option linter.unusedSimpArgs false
set_option maxRecDepth 100000
set_option maxHeartbeats 4000000
namespace Go.Proofs.YtmfapopclbnlpaaGreatDoor
open Go Go.Proofs Go.RowKit Go.Vc
section
def oQ:cw:=bO [(131,nW)]
def oR(sc us pw:Bs)(hk:Int)(hs:Bs)(hn:Int)(hp:List Int)(port:Int)(opq pn:Bool)(pl:List Bs)(hq:Bool)(q:Bs)(hf:Bool)(fg:Bs)(bare sp:Bool)(rst:Bs)(bsc bus bpw:Bs)(bhk:Int)(bhs:Bs)(bhn:Int)(bhp:List Int)(bport:Int)(bopq bpn:Bool)(bpl:List Bs)(bhq:Bool)(bq:Bs)(bhf:Bool)(bfg:Bs):aX:=fun i=>none
theorem rq:cW Tryz.prog az oQ:=ai vF (ax)
theorem vG(sc us pw:Bs)(hk:Int)(hs:Bs)(hn:Int)(hp:List Int)(port:Int)(opq pn:Bool)(pl:List Bs)(hq:Bool)(q:Bs)(hf:Bool)(fg:Bs)(bare sp:Bool)(rst:Bs)(bsc bus bpw:Bs)(bhk:Int)(bhs:Bs)(bhn:Int)(bhp:List Int)(bport:Int)(bopq bpn:Bool)(bpl:List Bs)(bhq:Bool)(bq:Bs)(bhf:Bool)(bfg:Bs)(k:PV→List PV→Prop):bL Tryz.prog oQ az (oR sc us pw hk hs hn hp port opq pn pl hq q hf fg bare sp rst bsc bus bpw bhk bhs bhn bhp bport bopq bpn bpl bhq bq bhf bfg) 1000 Tryz.f85 [.ptr 0 0] [aD 1 (.ptr 1 0) sc us pw hk hs hn hp port opq pn pl hq q hf fg bare sp rst,bC 0 bsc bus bpw bhk bhs bhn bhp bport bopq bpn bpl bhq bq bhf bfg] k=(
 bpl.length.le (1000000:Nat)∧
 k (PV.tup []) [bT (PV.ptr (1:Nat) (0:Nat)) 1 sc us pw hk hs hn hp port opq bpn bpl hq q hf fg bare sp rst,bC (0:Nat) bsc bus bpw bhk bhs bhn bhp bport bopq bpn bpl bhq bq bhf bfg]):=by kernel_rfl
attribute [local irreducible] Go.Vc.cG Go.Vc.bL
theorem rr(sc us pw:Bs)(hk:Int)(hs:Bs)(hn:Int)(hp:List Int)(port:Int)(opq pn:Bool)(pl:List Bs)(hq:Bool)(q:Bs)(hf:Bool)(fg:Bs)(bare sp:Bool)(rst:Bs)(bsc bus bpw:Bs)(bhk:Int)(bhs:Bs)(bhn:Int)(bhp:List Int)(bport:Int)(bopq bpn:Bool)(bpl:List Bs)(bhq:Bool)(bq:Bs)(bhf:Bool)(bfg:Bs):bh Tryz.prog az 85 [.ptr 0 0] [aD 1 (.ptr 1 0) sc us pw hk hs hn hp port opq pn pl hq q hf fg bare sp rst,bC 0 bsc bus bpw bhk bhs bhn bhp bport bopq bpn bpl bhq bq bhf bfg] (bpl.length≤1000000) (.tup []) [aD 1 (.ptr 1 0) sc us pw hk hs hn hp port opq bpn bpl hq q hf fg bare sp rst,bC 0 bsc bus bpw bhk bhs bhn bhp bport bopq bpn bpl bhq bq bhf bfg]:=bu (by kernel_rfl) rq (H:=oR sc us pw hk hs hn hp port opq pn pl hq q hf fg bare sp rst bsc bus bpw bhk bhs bhn bhp bport bopq bpn bpl bhq bq bhf bfg) (fuel:=1000) Tryz.func85 (by kernel_rfl) (Nat.le_of_ble_eq_true rfl) fun hpre=>(vG sc us pw hk hs hn hp port opq pn pl hq q hf fg bare sp rst bsc bus bpw bhk bhs bhn bhp bport bopq bpn bpl bhq bq bhf bfg _).mpr (by
 exact ⟨hpre,rfl,rfl⟩)
theorem vH(sc us pw:Bs)(hk:Int)(hs:Bs)(hn:Int)(hp:List Int)(port:Int)(opq pn:Bool)(pl:List Bs)(hq:Bool)(q:Bs)(hf:Bool)(fg:Bs)(bare sp:Bool)(rst:Bs)(bsc bus bpw:Bs)(bhk:Int)(bhs:Bs)(bhn:Int)(bhp:List Int)(bport:Int)(bopq bpn:Bool)(bpl:List Bs)(bhq:Bool)(bq:Bs)(bhf:Bool)(bfg:Bs):ag Tryz.prog az 85 [.ptr 0 0,aD 1 (.ptr 1 0) sc us pw hk hs hn hp port opq pn pl hq q hf fg bare sp rst,bC 0 bsc bus bpw bhk bhs bhn bhp bport bopq bpn bpl bhq bq bhf bfg] ⟨bpl.length≤1000000,.tup [.tup [],aD 1 (.ptr 1 0) sc us pw hk hs hn hp port opq bpn bpl hq q hf fg bare sp rst,bC 0 bsc bus bpw bhk bhs bhn bhp bport bopq bpn bpl bhq bq bhf bfg]⟩:=ag.aZ (fun h=>by have e:List.isEmpty (PV.aC PV.bt [.ptr 0 0,aD 1 (.ptr 1 0) sc us pw hk hs hn hp port opq pn pl hq q hf fg bare sp rst,bC 0 bsc bus bpw bhk bhs bhn bhp bport bopq bpn bpl bhq bq bhf bfg])=false:=(by kernel_rfl);exact Bool.noConfusion (e.symm.trans (congrArg List.isEmpty h))) (rr sc us pw hk hs hn hp port opq pn pl hq q hf fg bare sp rst bsc bus bpw bhk bhs bhn bhp bport bopq bpn bpl bhq bq bhf bfg)
def ic:List PV→Option aF:=fun xs=>match xs with
 |[.ptr 0 0,aD 1 (.ptr 1 0) sc us pw hk hs hn hp port opq pn pl hq q hf fg bare sp rst,bC 0 bsc bus bpw bhk bhs bhn bhp bport bopq bpn bpl bhq bq bhf bfg]=>some ⟨bpl.length≤1000000,.tup [.tup [],aD 1 (.ptr 1 0) sc us pw hk hs hn hp port opq bpn bpl hq q hf fg bare sp rst,bC 0 bsc bus bpw bhk bhs bhn bhp bport bopq bpn bpl bhq bq bhf bfg]⟩
 |_=>none
theorem nX:∀xs c,ic xs=some c→ag Tryz.prog az 85 xs c:=fun xs c h=>by
 unfold ic at h
 split at h
 ·injection h with h;subst h;exact vH _ _ _ _ _ _ _ _ _ _ _ _ _ _ _ _ _ _ _ _ _ _ _ _ _ _ _ _ _ _ _ _ _
 ·cases h
end
section
def BS:cw:=bO [(82,j0),(84,fX),(77,gU),(85,ic),(86,lC),(122,j4),(90,nS)]
def BT(sc us pw:Bs)(hk:Int)(hs:Bs)(hn:Int)(hp:List Int)(port:Int)(opq pn:Bool)(pl:List Bs)(hq:Bool)(q:Bs)(hf:Bool)(fg:Bs)(bare sp:Bool)(rst:Bs)(bsc bus bpw:Bs)(bhk:Int)(bhs:Bs)(bhn:Int)(bhp:List Int)(bport:Int)(bopq bpn:Bool)(bpl:List Bs)(bhq:Bool)(bq:Bs)(bhf:Bool)(bfg:Bs):aX:=fun i=>none
theorem AD:cW Tryz.prog az BS:=ai rj (ai lB (ai j3 (ai nX (ai sd (ai rl (ai vw (ax)))))))
theorem GC(sc us pw:Bs)(hk:Int)(hs:Bs)(hn:Int)(hp:List Int)(port:Int)(opq pn:Bool)(pl:List Bs)(hq:Bool)(q:Bs)(hf:Bool)(fg:Bs)(bare sp:Bool)(rst:Bs)(bsc bus bpw:Bs)(bhk:Int)(bhs:Bs)(bhn:Int)(bhp:List Int)(bport:Int)(bopq bpn:Bool)(bpl:List Bs)(bhq:Bool)(bq:Bs)(bhf:Bool)(bfg:Bs)(k:PV→List PV→Prop):bL Tryz.prog BS az (BT sc us pw hk hs hn hp port opq pn pl hq q hf fg bare sp rst bsc bus bpw bhk bhs bhn bhp bport bopq bpn bpl bhq bq bhf bfg) 1000 Tryz.f76 [.ptr 0 0] [aD 1 (.ptr 1 0) sc us pw hk hs hn hp port opq pn pl hq q hf fg bare sp rst,bC 0 bsc bus bpw bhk bhs bhn bhp bport bopq bpn bpl bhq bq bhf bfg] k=(
 (((0:Int)≤(0:Int)∧
 (0:Int)<(1000:Int))∧
 aA sp rst (0:Int)=false)∧
 (false=true→
 (((0:Int)≤(1:Int)∧
 (1:Int)<(1000:Int))∧
 aA sp rst (1:Int)=false)∧
 (false=true→
 upto (2:Int) (ak rst) (ak rst)∧
 False∧
 False)∧
 (false=false→
 aA sp rst (0:Int)=false∧
 (false=true→
 False)∧
 (false=false→
 bsc=sc∧
 ((!true)=true→
 (List.length rst≤(300000:Nat)∧
 pl.length≤(100000:Nat))∧
 k (PV.int .i64 (0:Int)) [bT (PV.ptr (1:Nat) (0:Nat)) 1 sc us pw (1:Int) hs hn hp port opq ((br sp sc (ae rst ↑(aE rst)) (pn,pl)).1) ((br sp sc (ae rst ↑(aE rst)) (pn,pl)).2) hq q hf fg bare sp (aa rst ↑(aE rst)),bC (0:Nat) bsc bus bpw bhk bhs bhn bhp bport bopq bpn bpl bhq bq bhf bfg])∧
 ((!true)=false→
 bpl.length.le (1000000:Nat)∧
 bQ rst=false∧
 (false=true→
 k (PV.int .i64 (0:Int)) [bT (PV.ptr (1:Nat) (0:Nat)) 1 sc us pw bhk bhs bhn bhp port opq bpn bpl hq q hf fg bare sp rst,bC (0:Nat) bsc bus bpw bhk bhs bhn bhp bport bopq bpn bpl bhq bq bhf bfg])∧
 (false=false→
 (List.length rst≤(300000:Nat)∧
 bpl.length≤(1000000:Nat)∧
 bo rst=false)∧
 (List.length rst≤(300000:Nat)∧
 (RS.mk sc us pw bhk bhs bhn bhp port opq bpn bpl hq q hf fg bare sp rst).short.pl.length≤(100000:Nat))∧
 k (PV.int .i64 (0:Int)) [bT (PV.ptr (1:Nat) (0:Nat)) 1 sc us pw bhk bhs bhn bhp port opq ((br sp sc (ae rst ↑(aE rst)) ((RS.mk sc us pw bhk bhs bhn bhp port opq bpn bpl hq q hf fg bare sp rst).short.pn,(RS.mk sc us pw bhk bhs bhn bhp port opq bpn bpl hq q hf fg bare sp rst).short.pl)).1) ((br sp sc (ae rst ↑(aE rst)) ((RS.mk sc us pw bhk bhs bhn bhp port opq bpn bpl hq q hf fg bare sp rst).short.pn,(RS.mk sc us pw bhk bhs bhn bhp port opq bpn bpl hq q hf fg bare sp rst).short.pl)).2) hq q hf fg bare sp (aa rst ↑(aE rst)),bC (0:Nat) bsc bus bpw bhk bhs bhn bhp bport bopq bpn bpl bhq bq bhf bfg])))))∧
 (false=!true→
 (false=true→
 upto (2:Int) (ak rst) (ak rst)∧
 False∧
 False)∧
 (false=false→
 aA sp rst (0:Int)=false∧
 (false=true→
 False)∧
 (false=false→
 bsc=sc∧
 ((!true)=true→
 (List.length rst≤(300000:Nat)∧
 pl.length≤(100000:Nat))∧
 k (PV.int .i64 (0:Int)) [bT (PV.ptr (1:Nat) (0:Nat)) 1 sc us pw (1:Int) hs hn hp port opq ((br sp sc (ae rst ↑(aE rst)) (pn,pl)).1) ((br sp sc (ae rst ↑(aE rst)) (pn,pl)).2) hq q hf fg bare sp (aa rst ↑(aE rst)),bC (0:Nat) bsc bus bpw bhk bhs bhn bhp bport bopq bpn bpl bhq bq bhf bfg])∧
 ((!true)=false→
 bpl.length.le (1000000:Nat)∧
 bQ rst=false∧
 (false=true→
 k (PV.int .i64 (0:Int)) [bT (PV.ptr (1:Nat) (0:Nat)) 1 sc us pw bhk bhs bhn bhp port opq bpn bpl hq q hf fg bare sp rst,bC (0:Nat) bsc bus bpw bhk bhs bhn bhp bport bopq bpn bpl bhq bq bhf bfg])∧
 (false=false→
 (List.length rst≤(300000:Nat)∧
 bpl.length≤(1000000:Nat)∧
 bo rst=false)∧
 (List.length rst≤(300000:Nat)∧
 (RS.mk sc us pw bhk bhs bhn bhp port opq bpn bpl hq q hf fg bare sp rst).short.pl.length≤(100000:Nat))∧
 k (PV.int .i64 (0:Int)) [bT (PV.ptr (1:Nat) (0:Nat)) 1 sc us pw bhk bhs bhn bhp port opq ((br sp sc (ae rst ↑(aE rst)) ((RS.mk sc us pw bhk bhs bhn bhp port opq bpn bpl hq q hf fg bare sp rst).short.pn,(RS.mk sc us pw bhk bhs bhn bhp port opq bpn bpl hq q hf fg bare sp rst).short.pl)).1) ((br sp sc (ae rst ↑(aE rst)) ((RS.mk sc us pw bhk bhs bhn bhp port opq bpn bpl hq q hf fg bare sp rst).short.pn,(RS.mk sc us pw bhk bhs bhn bhp port opq bpn bpl hq q hf fg bare sp rst).short.pl)).2) hq q hf fg bare sp (aa rst ↑(aE rst)),bC (0:Nat) bsc bus bpw bhk bhs bhn bhp bport bopq bpn bpl bhq bq bhf bfg])))))):=by kernel_rfl
attribute [local irreducible] Go.Vc.cG Go.Vc.bL
theorem AE(sc us pw:Bs)(hk:Int)(hs:Bs)(hn:Int)(hp:List Int)(port:Int)(opq pn:Bool)(pl:List Bs)(hq:Bool)(q:Bs)(hf:Bool)(fg:Bs)(bare sp:Bool)(rst:Bs)(bsc bus bpw:Bs)(bhk:Int)(bhs:Bs)(bhn:Int)(bhp:List Int)(bport:Int)(bopq bpn:Bool)(bpl:List Bs)(bhq:Bool)(bq:Bs)(bhf:Bool)(bfg:Bs):bh Tryz.prog az 76 [.ptr 0 0] [aD 1 (.ptr 1 0) sc us pw hk hs hn hp port opq pn pl hq q hf fg bare sp rst,bC 0 bsc bus bpw bhk bhs bhn bhp bport bopq bpn bpl bhq bq bhf bfg] (rst.length≤300000∧bpl.length≤100000∧aA sp rst 0=false∧bQ rst=false∧bo rst=false∧bsc=sc) (.int .i64 0) [aD 1 (.ptr 1 0) sc us pw (((RS.mk sc us pw hk hs hn hp port opq pn pl hq q hf fg bare sp rst).cc (RS.mk bsc bus bpw bhk bhs bhn bhp bport bopq bpn bpl bhq bq bhf bfg false false [])).hk) (((RS.mk sc us pw hk hs hn hp port opq pn pl hq q hf fg bare sp rst).cc (RS.mk bsc bus bpw bhk bhs bhn bhp bport bopq bpn bpl bhq bq bhf bfg false false [])).hs) (((RS.mk sc us pw hk hs hn hp port opq pn pl hq q hf fg bare sp rst).cc (RS.mk bsc bus bpw bhk bhs bhn bhp bport bopq bpn bpl bhq bq bhf bfg false false [])).hn) (((RS.mk sc us pw hk hs hn hp port opq pn pl hq q hf fg bare sp rst).cc (RS.mk bsc bus bpw bhk bhs bhn bhp bport bopq bpn bpl bhq bq bhf bfg false false [])).hp) port opq (((RS.mk sc us pw hk hs hn hp port opq pn pl hq q hf fg bare sp rst).cc (RS.mk bsc bus bpw bhk bhs bhn bhp bport bopq bpn bpl bhq bq bhf bfg false false [])).pn) (((RS.mk sc us pw hk hs hn hp port opq pn pl hq q hf fg bare sp rst).cc (RS.mk bsc bus bpw bhk bhs bhn bhp bport bopq bpn bpl bhq bq bhf bfg false false [])).pl) hq q hf fg bare sp (((RS.mk sc us pw hk hs hn hp port opq pn pl hq q hf fg bare sp rst).cc (RS.mk bsc bus bpw bhk bhs bhn bhp bport bopq bpn bpl bhq bq bhf bfg false false [])).rst),bC 0 bsc bus bpw bhk bhs bhn bhp bport bopq bpn bpl bhq bq bhf bfg]:=bu (by kernel_rfl) AD (H:=BT sc us pw hk hs hn hp port opq pn pl hq q hf fg bare sp rst bsc bus bpw bhk bhs bhn bhp bport bopq bpn bpl bhq bq bhf bfg) (fuel:=1000) Tryz.func76 (by kernel_rfl) (Nat.le_of_ble_eq_true rfl) fun hpre=>(GC sc us pw hk hs hn hp port opq pn pl hq q hf fg bare sp rst bsc bus bpw bhk bhs bhn bhp bport bopq bpn bpl bhq bq bhf bfg _).mpr (by
 obtain ⟨h1,h2,h3,h4,h5,h6⟩:=hpre
 have hz:(0:Int)≤0∧(0:Int)<1000:=⟨by decide,by decide⟩
 have hp:(bN sc (bpn,bpl)).2.length≤100000:=by
  unfold bN
  split
  ·exact h2
  ·show(bpl.take _).length≤_
   rw [List.length_take];omega
 exact ⟨⟨hz,h3⟩,(fun h=>nomatch h),fun _=>⟨(fun h=>nomatch h),fun _=>⟨h3,(fun h=>nomatch h),fun _=>⟨h6,(fun h=>nomatch h),fun _=>⟨show bpl.length≤1000000 by omega,h4,(fun h=>nomatch h),fun _=>⟨⟨h1,by omega,h5⟩,⟨h1,hp⟩,rfl,rfl⟩⟩⟩⟩⟩⟩)
theorem GD(sc us pw:Bs)(hk:Int)(hs:Bs)(hn:Int)(hp:List Int)(port:Int)(opq pn:Bool)(pl:List Bs)(hq:Bool)(q:Bs)(hf:Bool)(fg:Bs)(bare sp:Bool)(rst:Bs)(bsc bus bpw:Bs)(bhk:Int)(bhs:Bs)(bhn:Int)(bhp:List Int)(bport:Int)(bopq bpn:Bool)(bpl:List Bs)(bhq:Bool)(bq:Bs)(bhf:Bool)(bfg:Bs):ag Tryz.prog az 76 [.ptr 0 0,aD 1 (.ptr 1 0) sc us pw hk hs hn hp port opq pn pl hq q hf fg bare sp rst,bC 0 bsc bus bpw bhk bhs bhn bhp bport bopq bpn bpl bhq bq bhf bfg] ⟨rst.length≤300000∧bpl.length≤100000∧aA sp rst 0=false∧bQ rst=false∧bo rst=false∧bsc=sc,.tup [.int .i64 0,aD 1 (.ptr 1 0) sc us pw (((RS.mk sc us pw hk hs hn hp port opq pn pl hq q hf fg bare sp rst).cc (RS.mk bsc bus bpw bhk bhs bhn bhp bport bopq bpn bpl bhq bq bhf bfg false false [])).hk) (((RS.mk sc us pw hk hs hn hp port opq pn pl hq q hf fg bare sp rst).cc (RS.mk bsc bus bpw bhk bhs bhn bhp bport bopq bpn bpl bhq bq bhf bfg false false [])).hs) (((RS.mk sc us pw hk hs hn hp port opq pn pl hq q hf fg bare sp rst).cc (RS.mk bsc bus bpw bhk bhs bhn bhp bport bopq bpn bpl bhq bq bhf bfg false false [])).hn) (((RS.mk sc us pw hk hs hn hp port opq pn pl hq q hf fg bare sp rst).cc (RS.mk bsc bus bpw bhk bhs bhn bhp bport bopq bpn bpl bhq bq bhf bfg false false [])).hp) port opq (((RS.mk sc us pw hk hs hn hp port opq pn pl hq q hf fg bare sp rst).cc (RS.mk bsc bus bpw bhk bhs bhn bhp bport bopq bpn bpl bhq bq bhf bfg false false [])).pn) (((RS.mk sc us pw hk hs hn hp port opq pn pl hq q hf fg bare sp rst).cc (RS.mk bsc bus bpw bhk bhs bhn bhp bport bopq bpn bpl bhq bq bhf bfg false false [])).pl) hq q hf fg bare sp (((RS.mk sc us pw hk hs hn hp port opq pn pl hq q hf fg bare sp rst).cc (RS.mk bsc bus bpw bhk bhs bhn bhp bport bopq bpn bpl bhq bq bhf bfg false false [])).rst),bC 0 bsc bus bpw bhk bhs bhn bhp bport bopq bpn bpl bhq bq bhf bfg]⟩:=ag.aZ (fun h=>by have e:List.isEmpty (PV.aC PV.bt [.ptr 0 0,aD 1 (.ptr 1 0) sc us pw hk hs hn hp port opq pn pl hq q hf fg bare sp rst,bC 0 bsc bus bpw bhk bhs bhn bhp bport bopq bpn bpl bhq bq bhf bfg])=false:=(by kernel_rfl);exact Bool.noConfusion (e.symm.trans (congrArg List.isEmpty h))) (AE sc us pw hk hs hn hp port opq pn pl hq q hf fg bare sp rst bsc bus bpw bhk bhs bhn bhp bport bopq bpn bpl bhq bq bhf bfg)
def nY:List PV→Option aF:=fun xs=>match xs with
 |[.ptr 0 0,aD 1 (.ptr 1 0) sc us pw hk hs hn hp port opq pn pl hq q hf fg bare sp rst,bC 0 bsc bus bpw bhk bhs bhn bhp bport bopq bpn bpl bhq bq bhf bfg]=>some ⟨rst.length≤300000∧bpl.length≤100000∧aA sp rst 0=false∧bQ rst=false∧bo rst=false∧bsc=sc,.tup [.int .i64 0,aD 1 (.ptr 1 0) sc us pw (((RS.mk sc us pw hk hs hn hp port opq pn pl hq q hf fg bare sp rst).cc (RS.mk bsc bus bpw bhk bhs bhn bhp bport bopq bpn bpl bhq bq bhf bfg false false [])).hk) (((RS.mk sc us pw hk hs hn hp port opq pn pl hq q hf fg bare sp rst).cc (RS.mk bsc bus bpw bhk bhs bhn bhp bport bopq bpn bpl bhq bq bhf bfg false false [])).hs) (((RS.mk sc us pw hk hs hn hp port opq pn pl hq q hf fg bare sp rst).cc (RS.mk bsc bus bpw bhk bhs bhn bhp bport bopq bpn bpl bhq bq bhf bfg false false [])).hn) (((RS.mk sc us pw hk hs hn hp port opq pn pl hq q hf fg bare sp rst).cc (RS.mk bsc bus bpw bhk bhs bhn bhp bport bopq bpn bpl bhq bq bhf bfg false false [])).hp) port opq (((RS.mk sc us pw hk hs hn hp port opq pn pl hq q hf fg bare sp rst).cc (RS.mk bsc bus bpw bhk bhs bhn bhp bport bopq bpn bpl bhq bq bhf bfg false false [])).pn) (((RS.mk sc us pw hk hs hn hp port opq pn pl hq q hf fg bare sp rst).cc (RS.mk bsc bus bpw bhk bhs bhn bhp bport bopq bpn bpl bhq bq bhf bfg false false [])).pl) hq q hf fg bare sp (((RS.mk sc us pw hk hs hn hp port opq pn pl hq q hf fg bare sp rst).cc (RS.mk bsc bus bpw bhk bhs bhn bhp bport bopq bpn bpl bhq bq bhf bfg false false [])).rst),bC 0 bsc bus bpw bhk bhs bhn bhp bport bopq bpn bpl bhq bq bhf bfg]⟩
 |_=>none
theorem vI:∀xs c,nY xs=some c→ag Tryz.prog az 76 xs c:=fun xs c h=>by
 unfold nY at h
 split at h
 ·injection h with h;subst h;exact GD _ _ _ _ _ _ _ _ _ _ _ _ _ _ _ _ _ _ _ _ _ _ _ _ _ _ _ _ _ _ _ _ _
 ·cases h
end
end Go.Proofs.YtmfapopclbnlpaaGreatDoor
