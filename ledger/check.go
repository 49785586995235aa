package ledger

import (
	"slices"

	"lading/api"
)

// maxAmount is the greatest amount of a posting, and of a pay.
const maxAmount = 1 << 60

// Check tells why books are not right. Pays are right just if they are those that the postings come to, in order.
func Check(b api.Books) api.Errno {
	pays, is := paysOf(b.Postings)
	if !is || !slices.Equal(pays, b.Pays) {
		return api.ErrState
	}
	return api.OK
}

// paysOf are the pays that postings come to, by rising orders; none, and false, if these may not be.
func paysOf(postings []api.Posting) ([]api.Pay, bool) {
	if len(postings) > api.MaxEvents {
		return nil, false
	}
	byOrder := make([]api.Pay, api.MaxOrders+1)
	for _, x := range postings {
		if !isPosting(x) {
			return nil, false
		}
		pay := behind(byOrder[x.Order], x)
		if isBeyond(pay) {
			return nil, false
		}
		byOrder[x.Order] = pay
	}
	pays := slices.DeleteFunc(byOrder, isNothing)
	if slices.ContainsFunc(pays, owes) {
		return nil, false
	}
	return pays, true
}

// behind is what a pay is behind a posting of its order.
func behind(p api.Pay, x api.Posting) api.Pay {
	p.Order = x.Order
	switch x.To {
	case api.AccountHold:
		p.Open += x.Amount
	case api.AccountSales:
		p.Captured += x.Amount
	}
	switch x.From {
	case api.AccountHold:
		p.Open -= x.Amount
	case api.AccountSales:
		p.Refunded += x.Amount
	}
	return p
}

// isBeyond tells whether a pay may not be, not even on the way. It is asked posting by posting, so that no amount goes round.
func isBeyond(p api.Pay) bool {
	return max(p.Open, p.Captured, p.Refunded) > maxAmount || p.Open < -maxAmount
}

// owes tells whether more has gone than has come.
func owes(p api.Pay) bool { return p.Open < 0 || p.Refunded > p.Captured }

// isNothing tells whether there is no pay.
func isNothing(p api.Pay) bool { return p.Open == 0 && p.Captured == 0 && p.Refunded == 0 }

func isPosting(x api.Posting) bool {
	return isOrder(x.Order) && isAmount(x.Amount) && isAccount(x.From) && isAccount(x.To) && x.From != x.To
}

func isOrder(order int) bool { return order >= 1 && order <= api.MaxOrders }

func isAmount(n int64) bool { return n >= 1 && n <= maxAmount }

func isAccount(a api.Account) bool { return a > api.AccountNone && a < api.AccountCount }
