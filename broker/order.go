package broker

import (
	"modality/api"
	"modality/feed"
)

// What is answered to a message that is too long.
const (
	codeLong  = "AR"
	wordsLong = "too long"
)

// beginFeed: the order feed's connection is begun anew (P16.8).
func (b *Broker) beginFeed(api.Act) { b.framer = feed.NewFramer() }

// orders: bytes of the order feed come (P16.8).
func (b *Broker) orders(a api.Act) {
	for _, m := range b.framer.Take(a.Data) {
		b.order(orderOf(m))
	}
}

// orderOf is a message's order; one that can't be read says itself what to answer.
func orderOf(m api.FeedFrame) api.Order {
	if m.Long {
		return api.Order{Code: codeLong, Words: wordsLong}
	}
	o, _ := feed.Parse(m.Text)
	return o
}

// order makes an order, and acknowledges it once it is safe.
func (b *Broker) order(o api.Order) {
	code, words, err := b.store.Order(o)
	b.needPower(err)
	frame, _ := feed.Ack(o.Control, code, words) // both layers keep to its forms
	b.put(acknowledged{frame})
	b.compact()
}
