package session

// SetSent makes a session one that has sent so many payloads: 2^40 can't be sent one by one.
func SetSent(s *Session, sent int) { s.sent = sent }
